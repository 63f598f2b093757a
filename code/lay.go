package code

import "stratum/api"

// number is what numbers of records are.
type number interface {
	int | int64 | uint8 | uint32
}

// lay lays a number behind b, in so many bytes, the most significant first.
func lay[T number](b []byte, size int, v T) []byte {
	for i := size - 1; i >= 0; i-- {
		b = append(b, byte(uint64(v)>>(8*i)))
	}
	return b
}

// layAll lays how many there are, in so many bytes, then each. It ends early where there are too many bytes already: a sound record could come to some hundred times as many as may be.
func layAll[T any](b []byte, size int, l []T, one func(b []byte, v T) []byte) []byte {
	b = lay(b, size, len(l))
	for _, v := range l {
		if len(b) > api.MaxBytes {
			return b
		}
		b = one(b, v)
	}
	return b
}

func layNode(b []byte, node int) []byte { return lay(b, short, node) }

func layPlace(b []byte, place int) []byte { return lay(b, word, place) }

func layFact(b []byte, f api.Fact) []byte {
	b = layAll(b, short, f.Key, layPlace)
	return lay(b, long, f.V)
}

func layEntry(b []byte, e api.Entry) []byte {
	b = lay(b, word, e.At)
	return layAll(b, word, e.Facts, layFact)
}

func laySpan(b []byte, s api.Span) []byte {
	b = lay(b, word, s.From)
	return layNode(b, s.Node)
}

// layRec is the bytes of a record that is sound.
func layRec(r api.Rec) []byte {
	b := lay(nil, short, r.Kind)
	b = lay(b, word, r.ID)
	switch r.Kind {
	case api.RecPrepare:
		b = layAll(b, short, r.Nodes, layNode)
		b = layAll(b, word, r.Facts, layFact)
	case api.RecCommit:
		b = lay(b, word, r.At)
		b = layAll(b, short, r.Nodes, layNode)
	case api.RecMap:
		b = lay(b, word, r.Map.Epoch)
		b = layAll(b, short, r.Map.L, laySpan)
	case api.RecTake:
		b = lay(b, word, r.From)
		b = lay(b, word, r.To)
		b = layAll(b, word, r.Entries, layEntry)
	}
	return b
}
