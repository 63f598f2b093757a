package code

import "stratum/api"

// missing is how many bytes are not there; reading panics with it, so that no step on the way has to ask.
type missing int

// reader is bytes that are read from the front on.
type reader struct {
	left []byte
}

// take is the next bytes, so many.
func (from *reader) take(size int) []byte {
	if size > len(from.left) {
		panic(missing(size - len(from.left)))
	}
	b := from.left[:size]
	from.left = from.left[size:]
	return b
}

// read is the number that lay laid in so many bytes.
func read[T number](from *reader, size int) T {
	var v uint64
	for _, c := range from.take(size) {
		v = v<<8 | uint64(c)
	}
	return T(v)
}

// readAll reads how many there are, then each. No memory is made by the count alone: one that is greater than what follows ends at what is missing.
func readAll[T any](from *reader, size int, one func(from *reader) T) []T {
	var l []T
	for range read[uint32](from, size) {
		l = append(l, one(from))
	}
	return l
}

func readNode(from *reader) int { return read[int](from, short) }

func readPlace(from *reader) int { return read[int](from, word) }

func readFact(from *reader) api.Fact {
	key := readAll(from, short, readPlace)
	return api.Fact{Key: key, V: read[int64](from, long)}
}

func readEntry(from *reader) api.Entry {
	at := read[uint32](from, word)
	return api.Entry{At: at, Facts: readAll(from, word, readFact)}
}

func readSpan(from *reader) api.Span {
	first := read[int](from, word)
	return api.Span{From: first, Node: readNode(from)}
}

// readRec is the record that stands at the front, sound or not. Of a kind that is none nothing more is read than of those that have a number alone.
func readRec(from *reader) api.Rec {
	var r api.Rec
	r.Kind = read[uint8](from, short)
	r.ID = read[uint32](from, word)
	switch r.Kind {
	case api.RecPrepare:
		r.Nodes = readAll(from, short, readNode)
		r.Facts = readAll(from, word, readFact)
	case api.RecCommit:
		r.At = read[uint32](from, word)
		r.Nodes = readAll(from, short, readNode)
	case api.RecMap:
		r.Map.Epoch = read[uint32](from, word)
		r.Map.L = readAll(from, short, readSpan)
	case api.RecTake:
		r.From = read[int](from, word)
		r.To = read[int](from, word)
		r.Entries = readAll(from, word, readEntry)
	}
	return r
}
