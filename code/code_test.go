package code

import (
	"bytes"
	"encoding/hex"
	"math"
	"math/rand"
	"reflect"
	"runtime"
	"slices"
	"strings"
	"testing"

	"stratum/api"
)

func key(places ...int) []int { return places }

func fact(v int64, places ...int) api.Fact { return api.Fact{Key: places, V: v} }

// raw is bytes written out, in as many pieces as one likes.
func raw(pieces ...string) []byte {
	b, err := hex.DecodeString(strings.ReplaceAll(strings.Join(pieces, ""), " ", ""))
	if err != nil {
		panic(err)
	}
	return b
}

// zero says whether a record has nothing in it, in whichever form its lists are empty.
func zero(r api.Rec) bool { return r.Kind == 0 && nothing(r) }

func nothing(r api.Rec) bool { return reflect.DeepEqual(plain(r), api.Rec{Kind: r.Kind}) }

// plain is a record in memory of its own; lists with nothing in them are nil.
func plain(r api.Rec) api.Rec {
	r.Nodes, r.Facts = plainInts(r.Nodes), plainFacts(r.Facts)
	r.Map.L = append([]api.Span(nil), r.Map.L...)
	var entries []api.Entry
	for _, e := range r.Entries {
		entries = append(entries, api.Entry{At: e.At, Facts: plainFacts(e.Facts)})
	}
	r.Entries = entries
	return r
}

func plainInts(l []int) []int { return append([]int(nil), l...) }

func plainFacts(l []api.Fact) []api.Fact {
	var out []api.Fact
	for _, f := range l {
		out = append(out, api.Fact{Key: plainInts(f.Key), V: f.V})
	}
	return out
}

func same(a, b api.Rec) bool { return reflect.DeepEqual(plain(a), plain(b)) }

// facts is so many facts, of so many places each.
func facts(n, places int) []api.Fact {
	var out []api.Fact
	for i := range n {
		f := api.Fact{V: int64(i) - 100}
		for p := range places {
			f.Key = append(f.Key, (i*7+p)%api.MaxSize)
		}
		out = append(out, f)
	}
	return out
}

// entries is so many entries, each of so many facts of so many places, the same of all.
func entries(n, each, places int) []api.Entry {
	var out []api.Entry
	l := facts(each, places)
	for i := range n {
		out = append(out, api.Entry{At: uint32(i), Facts: l})
	}
	return out
}

func spans(n int) []api.Span {
	var out []api.Span
	for i := range n {
		out = append(out, api.Span{From: i * 3, Node: i % api.MaxNodes})
	}
	return out
}

// sized is a record that comes to n bytes, of some 51000 on: ten entries of 5008 bytes, one of facts of 9 bytes each, and as many as are needed of 8 bytes.
func sized(n int) api.Rec {
	rest := n - 17 - 10*5008 - 8
	l := entries(10, api.MaxFacts, api.MaxDims)
	l = append(l, api.Entry{At: 10, Facts: facts(rest%8, 0)})
	for range (rest - rest%8*9) / 8 {
		l = append(l, api.Entry{At: uint32(len(l))})
	}
	return api.Rec{Kind: api.RecTake, ID: 3, From: 1, To: 2, Entries: l}
}

type pair struct {
	name string
	r    api.Rec
	b    []byte
}

// ordinary is records of each kind, and their bytes.
func ordinary() []pair {
	return []pair{
		{"prepare", api.Rec{Kind: api.RecPrepare, ID: 1, Nodes: key(0, 2), Facts: []api.Fact{fact(-1, 3), fact(258, 4, 500)}},
			raw("01 00000001", "02 00 02", "00000002", "01 00000003 ffffffffffffffff", "02 00000004 000001f4 0000000000000102")},
		{"commit", api.Rec{Kind: api.RecCommit, ID: 0x01020304, At: 0x05060708, Nodes: key(1, 3, 4)},
			raw("02 01020304", "05060708", "03 01 03 04")},
		{"abort, the chapter's example", api.Rec{Kind: api.RecAbort, ID: 5}, raw("03 00000005")},
		{"end", api.Rec{Kind: api.RecEnd, ID: 2001}, raw("04 000007d1")},
		{"start", api.Rec{Kind: api.RecStart, ID: 1000}, raw("05 000003e8")},
		{"map", api.Rec{Kind: api.RecMap, Map: api.Map{Epoch: 2, L: []api.Span{{From: 0, Node: 0}, {From: 30, Node: 1}, {From: 300, Node: 0}}}},
			raw("06 00000000", "00000002", "03", "00000000 00", "0000001e 01", "0000012c 00")},
		{"take", api.Rec{Kind: api.RecTake, ID: 7, From: 50, To: 100, Entries: []api.Entry{{At: 1, Facts: []api.Fact{fact(9, 60)}}, {At: 4, Facts: []api.Fact{fact(2, 51), fact(-2, 51)}}}},
			raw("07 00000007", "00000032 00000064", "00000002",
				"00000001 00000001 01 0000003c 0000000000000009",
				"00000004 00000002 01 00000033 0000000000000002 01 00000033 fffffffffffffffe")},
	}
}

// edges is records at the edges that the chapter names, and their bytes.
func edges() []pair {
	spansOut := "06 00000000 ffffffff 28"
	for _, s := range spans(40) {
		spansOut += hex.EncodeToString([]byte{0, 0, 0, byte(s.From), byte(s.Node)})
	}
	return []pair{
		{"prepare of nothing", api.Rec{Kind: api.RecPrepare}, raw("01 00000000 00 00000000")},
		{"prepare, the greatest number", api.Rec{Kind: api.RecPrepare, ID: math.MaxUint32}, raw("01 ffffffff 00 00000000")},
		{"prepare, no facts", api.Rec{Kind: api.RecPrepare, ID: 1, Nodes: key(5)}, raw("01 00000001 01 05 00000000")},
		{"prepare, no nodes", api.Rec{Kind: api.RecPrepare, ID: 1, Facts: []api.Fact{fact(1, 1)}}, raw("01 00000001 00 00000001 01 00000001 0000000000000001")},
		{"prepare, 6 nodes", api.Rec{Kind: api.RecPrepare, ID: 1, Nodes: key(0, 1, 2, 3, 4, 5)}, raw("01 00000001 06 00 01 02 03 04 05 00000000")},
		{"prepare, a key of no place", api.Rec{Kind: api.RecPrepare, Facts: []api.Fact{fact(6)}}, raw("01 00000000 00 00000001 00 0000000000000006")},
		{"prepare, a key of 4 places, 0 and 9999 among them", api.Rec{Kind: api.RecPrepare, Facts: []api.Fact{fact(0, 0, 9999, 1, 256)}},
			raw("01 00000000 00 00000001 04 00000000 0000270f 00000001 00000100 0000000000000000")},
		{"prepare, one key twice, and keys that fall", api.Rec{Kind: api.RecPrepare, Facts: []api.Fact{fact(1, 2), fact(1, 2), fact(1, 1)}},
			raw("01 00000000 00 00000003", "01 00000002 0000000000000001", "01 00000002 0000000000000001", "01 00000001 0000000000000001")},
		{"prepare, keys of places apart", api.Rec{Kind: api.RecPrepare, Facts: []api.Fact{fact(1, 2), fact(1), fact(1, 3, 4)}},
			raw("01 00000000 00 00000003", "01 00000002 0000000000000001", "00 0000000000000001", "02 00000003 00000004 0000000000000001")},
		{"prepare, the least and the greatest V", api.Rec{Kind: api.RecPrepare, Facts: []api.Fact{fact(math.MinInt64, 1), fact(math.MaxInt64, 1), fact(-256, 1)}},
			raw("01 00000000 00 00000003", "01 00000001 8000000000000000", "01 00000001 7fffffffffffffff", "01 00000001 ffffffffffffff00")},
		{"prepare, each byte of V by itself", api.Rec{Kind: api.RecPrepare, Facts: []api.Fact{fact(0x0102030405060708)}}, raw("01 00000000 00 00000001 00 0102030405060708")},
		{"prepare, 200 facts", api.Rec{Kind: api.RecPrepare, Facts: slices.Repeat([]api.Fact{fact(1)}, 200)},
			raw("01 00000000 00 000000c8", strings.Repeat("00 0000000000000001", 200))},

		{"commit of nothing", api.Rec{Kind: api.RecCommit}, raw("02 00000000 00000000 00")},
		{"commit, the greatest", api.Rec{Kind: api.RecCommit, ID: math.MaxUint32, At: math.MaxUint32, Nodes: key(5)}, raw("02 ffffffff ffffffff 01 05")},
		{"commit, 6 nodes", api.Rec{Kind: api.RecCommit, Nodes: key(0, 1, 2, 3, 4, 5)}, raw("02 00000000 00000000 06 00 01 02 03 04 05")},
		{"abort, 0", api.Rec{Kind: api.RecAbort}, raw("03 00000000")},
		{"abort, the greatest", api.Rec{Kind: api.RecAbort, ID: math.MaxUint32}, raw("03 ffffffff")},
		{"end, 0", api.Rec{Kind: api.RecEnd}, raw("04 00000000")},
		{"end, the greatest", api.Rec{Kind: api.RecEnd, ID: math.MaxUint32}, raw("04 ffffffff")},
		{"start, 0", api.Rec{Kind: api.RecStart}, raw("05 00000000")},
		{"start, the greatest", api.Rec{Kind: api.RecStart, ID: math.MaxUint32}, raw("05 ffffffff")},

		{"map of nothing", api.Rec{Kind: api.RecMap}, raw("06 00000000 00000000 00")},
		{"map, no spans", api.Rec{Kind: api.RecMap, Map: api.Map{Epoch: 0x01020304}}, raw("06 00000000 01020304 00")},
		{"map, 40 spans", api.Rec{Kind: api.RecMap, Map: api.Map{Epoch: math.MaxUint32, L: spans(40)}}, raw(spansOut)},
		{"map, From 0 and 9999, Node 0 and 5, in no order", api.Rec{Kind: api.RecMap, Map: api.Map{L: []api.Span{{From: 9999, Node: 5}, {From: 9999, Node: 5}, {}}}},
			raw("06 00000000 00000000 03", "0000270f 05", "0000270f 05", "00000000 00")},

		{"take of nothing", api.Rec{Kind: api.RecTake}, raw("07 00000000 00000000 00000000 00000000")},
		{"take, From and To 10000", api.Rec{Kind: api.RecTake, ID: math.MaxUint32, From: 10000, To: 10000}, raw("07 ffffffff 00002710 00002710 00000000")},
		{"take, From above To", api.Rec{Kind: api.RecTake, From: 10000}, raw("07 00000000 00002710 00000000 00000000")},
		{"take, From below To", api.Rec{Kind: api.RecTake, To: 10000}, raw("07 00000000 00000000 00002710 00000000")},
		{"take, entries with no facts, the first at 0, the last at the greatest", api.Rec{Kind: api.RecTake, Entries: []api.Entry{{}, {At: 1}, {At: math.MaxUint32}}},
			raw("07 00000000 00000000 00000000 00000003", "00000000 00000000", "00000001 00000000", "ffffffff 00000000")},
		{"take, facts at the edges", api.Rec{Kind: api.RecTake, Entries: []api.Entry{{At: 2, Facts: []api.Fact{fact(math.MinInt64), fact(math.MaxInt64, 0, 9999, 0, 9999)}}}},
			raw("07 00000000 00000000 00000000 00000001", "00000002 00000002", "00 8000000000000000", "04 00000000 0000270f 00000000 0000270f 7fffffffffffffff")},
		{"take, 200 facts", api.Rec{Kind: api.RecTake, Entries: []api.Entry{{Facts: slices.Repeat([]api.Fact{fact(-1)}, 200)}}},
			raw("07 00000000 00000000 00000000 00000001", "00000000 000000c8", strings.Repeat("00 ffffffffffffffff", 200))},
		{"take, facts outside of From and To", api.Rec{Kind: api.RecTake, From: 5, To: 6, Entries: []api.Entry{{Facts: []api.Fact{fact(1, 7)}}}},
			raw("07 00000000 00000005 00000006 00000001", "00000000 00000001", "01 00000007 0000000000000001")},
	}
}

func all() []pair { return append(ordinary(), edges()...) }

func TestThereAndBack(t *testing.T) {
	for _, c := range all() {
		if !Sound(c.r) {
			t.Errorf("%s: not sound", c.name)
		}
		if got, e := Encode(c.r); !bytes.Equal(got, c.b) || e != api.OK {
			t.Errorf("%s: Encode: % x, %v, want % x", c.name, got, e, c.b)
		}
		if got, e := Decode(c.b); !same(got, c.r) || e != api.OK {
			t.Errorf("%s: Decode: %v, %v, want %v", c.name, got, e, c.r)
		}
	}
}

// R6: a list that is nil and one that is empty are the same thing.
func TestEmptyLists(t *testing.T) {
	for kind := api.RecPrepare; kind <= api.RecTake; kind++ {
		r := api.Rec{Kind: kind, Nodes: []int{}, Facts: []api.Fact{}, Map: api.Map{L: []api.Span{}}, Entries: []api.Entry{}}
		want, _ := Encode(api.Rec{Kind: kind})
		if got, e := Encode(r); !Sound(r) || !bytes.Equal(got, want) || e != api.OK || len(want) == 0 {
			t.Errorf("kind %d: % x, %v, want % x", kind, got, e, want)
		}
	}
	r := api.Rec{Kind: api.RecTake, Entries: []api.Entry{{Facts: []api.Fact{}}, {At: 1, Facts: []api.Fact{{Key: []int{}}}}}}
	if got, e := Encode(r); !bytes.Equal(got, raw("07 00000000 00000000 00000000 00000002 00000000 00000000 00000001 00000001 00 0000000000000000")) || e != api.OK {
		t.Errorf("empty lists within: % x, %v", got, e)
	}
}

func TestKinds(t *testing.T) {
	for kind := range 256 {
		r := api.Rec{Kind: uint8(kind)}
		want := kind >= 1 && kind <= 7
		if Sound(r) != want {
			t.Errorf("Sound of kind %d: %v", kind, !want)
		}
		b, e := Encode(r)
		if want != (e == api.OK) || want != (len(b) >= 5) || !want && (e != api.ErrArg || len(b) != 0) {
			t.Errorf("Encode of kind %d: % x, %v", kind, b, e)
		}
	}
}

// Each field by itself, of each kind: those that are not its kind's must be nought; of RecMap the number, too.
func TestFieldsOfKinds(t *testing.T) {
	fields := []struct {
		name  string
		kinds string // of which it is
		set   func(r *api.Rec)
	}{
		{"ID", "123457", func(r *api.Rec) { r.ID = 1 }},
		{"At", "2", func(r *api.Rec) { r.At = 1 }},
		{"Nodes", "12", func(r *api.Rec) { r.Nodes = key(0) }},
		{"Facts", "1", func(r *api.Rec) { r.Facts = []api.Fact{{}} }},
		{"Map.Epoch", "6", func(r *api.Rec) { r.Map.Epoch = 1 }},
		{"Map.L", "6", func(r *api.Rec) { r.Map.L = []api.Span{{}} }},
		{"From", "7", func(r *api.Rec) { r.From = 1 }},
		{"To", "7", func(r *api.Rec) { r.To = 1 }},
		{"Entries", "7", func(r *api.Rec) { r.Entries = []api.Entry{{}} }},
	}
	for kind := api.RecPrepare; kind <= api.RecTake; kind++ {
		for _, f := range fields {
			r := api.Rec{Kind: kind}
			f.set(&r)
			want := strings.Contains(f.kinds, string('0'+rune(kind)))
			b, e := Encode(r)
			if Sound(r) != want || want != (e == api.OK) || !want && (e != api.ErrArg || len(b) != 0) {
				t.Errorf("%s of kind %d: %v; % x, %v", f.name, kind, Sound(r), b, e)
			}
			if back, e := Decode(b); want && (!same(back, r) || e != api.OK || nothing(back)) {
				t.Errorf("%s of kind %d: back %v, %v", f.name, kind, back, e)
			}
		}
	}
}

// full is a record with all that its kind may have.
func full(kind uint8) api.Rec {
	for _, c := range ordinary() {
		if c.r.Kind == kind {
			return c.r
		}
	}
	return api.Rec{}
}

func TestNotSound(t *testing.T) {
	// Numbers that would go round to sound ones in the bytes that there are for them stand beside those just out of range.
	places := []int{-1, 10000, 1 << 32, 1<<32 + 5, -(1 << 32), math.MinInt, math.MaxInt}
	nodes := []int{-1, 6, 255, 256, 257, -256, math.MinInt, math.MaxInt}
	ends := []int{-1, 10001, 1 << 32, 1<<32 + 5, -(1 << 32), math.MinInt, math.MaxInt}
	check := func(name string, r api.Rec) {
		t.Helper()
		if Sound(r) {
			t.Errorf("%s: sound", name)
		}
		if b, e := Encode(r); e != api.ErrArg || len(b) != 0 {
			t.Errorf("%s: Encode: % x, %v", name, b, e)
		}
	}
	for _, kind := range []uint8{api.RecPrepare, api.RecCommit} {
		lists := [][]int{key(0, 0), key(5, 5), key(1, 0), key(0, 2, 1), key(0, 2, 2), key(0, 1, 2, 3, 4, 5, 5), key(0, 1, 2, 3, 4, 5, 6), make([]int, 1000)}
		for _, n := range nodes {
			lists = append(lists, key(n), key(n, 5), key(0, n))
		}
		for _, l := range lists {
			r := full(kind)
			r.Nodes = l
			check("nodes", r)
		}
	}
	keys := [][]int{key(0, 0, 0, 0, 0), make([]int, 256), make([]int, 257)}
	for _, v := range places {
		keys = append(keys, key(v), key(0, v), key(v, 0), key(1, 2, 3, v))
	}
	for _, k := range keys {
		for _, l := range [][]api.Fact{{fact(1, k...)}, {fact(1, 2), fact(1, k...)}, {fact(1, k...), fact(1, 2)}} {
			check("a key of a prepare", api.Rec{Kind: api.RecPrepare, Facts: l})
			check("a key of a take", api.Rec{Kind: api.RecTake, Entries: []api.Entry{{At: 1, Facts: l}}})
			check("a key of a take behind", api.Rec{Kind: api.RecTake, Entries: []api.Entry{{At: 1}, {At: 2, Facts: l}, {At: 3}}})
		}
	}
	check("201 facts of a prepare", api.Rec{Kind: api.RecPrepare, Facts: facts(201, 1)})
	check("201 facts of a take", api.Rec{Kind: api.RecTake, Entries: entries(1, 201, 1)})
	check("201 facts of the last entry", api.Rec{Kind: api.RecTake, Entries: []api.Entry{{At: 1}, {At: 2, Facts: facts(201, 1)}}})
	for _, at := range [][]uint32{{0, 0}, {1, 1}, {2, 1}, {1, 0}, {0, 1, 1}, {0, 2, 1}, {math.MaxUint32, 0}, {math.MaxUint32, math.MaxUint32}, {0, math.MaxUint32, 1}} {
		r := api.Rec{Kind: api.RecTake}
		for _, a := range at {
			r.Entries = append(r.Entries, api.Entry{At: a})
		}
		check("At", r)
	}
	check("5001 entries", api.Rec{Kind: api.RecTake, Entries: entries(5001, 0, 0)})
	check("41 spans", api.Rec{Kind: api.RecMap, Map: api.Map{L: spans(41)}})
	check("256 spans", api.Rec{Kind: api.RecMap, Map: api.Map{L: make([]api.Span, 256)}})
	for _, v := range places {
		check("From of a span", api.Rec{Kind: api.RecMap, Map: api.Map{L: []api.Span{{From: v}}}})
		check("From of a span behind", api.Rec{Kind: api.RecMap, Map: api.Map{L: []api.Span{{}, {From: v}}}})
	}
	for _, n := range nodes {
		check("Node of a span", api.Rec{Kind: api.RecMap, Map: api.Map{L: []api.Span{{Node: n}}}})
		check("Node of a span behind", api.Rec{Kind: api.RecMap, Map: api.Map{L: []api.Span{{}, {Node: n}}}})
	}
	for _, v := range ends {
		check("From", api.Rec{Kind: api.RecTake, From: v})
		check("To", api.Rec{Kind: api.RecTake, To: v})
	}
}

func TestManyBytes(t *testing.T) {
	for n := 59980; n <= 60020; n++ {
		r := sized(n)
		b, e := Encode(r)
		switch {
		case !Sound(r):
			t.Errorf("%d bytes: not sound", n)
		case n > 60000 && (e != api.ErrLimit || len(b) != 0):
			t.Errorf("%d bytes: %d, %v", n, len(b), e)
		case n <= 60000 && (e != api.OK || len(b) != n):
			t.Errorf("%d bytes: %d, %v", n, len(b), e)
		}
		if n > 60000 {
			continue
		}
		if back, e := Decode(b); !same(back, r) || e != api.OK {
			t.Errorf("%d bytes: not back: %v", n, e)
		}
	}
	for _, c := range []struct {
		name string
		l    []api.Entry
		n    int
	}{
		{"5000 entries with no facts", entries(5000, 0, 0), 17 + 5000*8},
		{"5000 entries of a fact", entries(5000, 1, 0), 0},
		{"11 entries of 200 facts", entries(11, 200, 4), 17 + 11*5008},
		{"12 entries of 200 facts", entries(12, 200, 4), 0},
		{"as much as may be sound", entries(5000, 200, 4), 0},
	} {
		r := api.Rec{Kind: api.RecTake, Entries: c.l}
		want := api.OK
		if c.n == 0 {
			want = api.ErrLimit
		}
		if b, e := Encode(r); !Sound(r) || len(b) != c.n || e != want {
			t.Errorf("%s: %v; %d bytes, %v, want %d", c.name, Sound(r), len(b), e, c.n)
		}
	}
}

// A prepare of the most that it may have is far from too many bytes.
func TestGreatestOfKinds(t *testing.T) {
	for _, c := range []struct {
		name string
		r    api.Rec
		n    int
	}{
		{"prepare", api.Rec{Kind: api.RecPrepare, Nodes: key(0, 1, 2, 3, 4, 5), Facts: facts(200, 4)}, 5 + 7 + 4 + 200*25},
		{"commit", api.Rec{Kind: api.RecCommit, Nodes: key(0, 1, 2, 3, 4, 5)}, 5 + 4 + 7},
		{"map", api.Rec{Kind: api.RecMap, Map: api.Map{L: spans(40)}}, 5 + 4 + 1 + 40*5},
	} {
		b, e := Encode(c.r)
		if len(b) != c.n || e != api.OK {
			t.Errorf("%s: %d bytes, %v, want %d", c.name, len(b), e, c.n)
		}
		if back, e := Decode(b); !same(back, c.r) || e != api.OK {
			t.Errorf("%s: not back: %v", c.name, e)
		}
	}
}

// Which error comes first: what is not sound is told ahead of what is too much, and that ahead of what is no record.
func TestWhichErrorComesFirst(t *testing.T) {
	long := entries(20, 200, 4)
	wrong := []api.Rec{
		{Kind: 0, Entries: long},
		{Kind: api.RecTake, At: 1, Entries: long},
		{Kind: api.RecTake, From: -1, Entries: long},
		{Kind: api.RecAbort, Entries: long},
		{Kind: api.RecTake, Entries: append(slices.Clone(long), long[0])},
		{Kind: api.RecTake, Entries: append(slices.Clone(long), api.Entry{At: 20, Facts: []api.Fact{fact(1, -1)}})},
		{Kind: api.RecTake, Entries: append(slices.Clone(long), api.Entry{At: 20, Facts: facts(201, 0)})},
		{Kind: api.RecTake, Entries: entries(5001, 1, 4)},
	}
	for i, r := range wrong {
		if b, e := Encode(r); e != api.ErrArg || len(b) != 0 {
			t.Errorf("Encode, %d: %d bytes, %v", i, len(b), e)
		}
	}
	whole, _ := Encode(sized(60000))
	for _, c := range []struct {
		name string
		b    []byte
		want api.Errno
	}{
		{"60000 noughts", make([]byte, 60000), api.ErrCode},
		{"60001 noughts", make([]byte, 60001), api.ErrLimit},
		{"60000 of 255", bytes.Repeat([]byte{255}, 60000), api.ErrCode},
		{"60001 of 255", bytes.Repeat([]byte{255}, 60001), api.ErrLimit},
		{"a record, and more than 60000 bytes in all", append(raw("03 00000005"), make([]byte, 60000)...), api.ErrLimit},
		{"a record, and 60000 bytes in all", append(raw("03 00000005"), make([]byte, 59995)...), api.ErrCode},
		{"60000 bytes of a record, one less", whole[:59999], api.ErrCode},
		{"60000 bytes of a record, one more", append(slices.Clone(whole), 0), api.ErrLimit},
		{"a record that would be sound, of more than 60000 bytes", append(raw("07 00000000 00000000 00000000 0000000c"), bytes.Repeat(layEntry(nil, entries(1, 200, 4)[0]), 12)...), api.ErrLimit},
		{"very many bytes", make([]byte, 1<<22), api.ErrLimit},
	} {
		if r, e := Decode(c.b); !zero(r) || e != c.want {
			t.Errorf("Decode, %s: kind %d, %v, want %v", c.name, r.Kind, e, c.want)
		}
	}
}

func isNone(t *testing.T, name string, b []byte) {
	t.Helper()
	if r, e := Decode(b); !zero(r) || e != api.ErrCode {
		t.Errorf("%s: Decode(% x) = %v, %v", name, b, r, e)
	}
}

func TestFrontsAndMore(t *testing.T) {
	for _, c := range all() {
		for n := range c.b {
			isNone(t, c.name+", a front", c.b[:n])
		}
		for _, more := range []byte{0, 1, 7, 255} {
			isNone(t, c.name+", one byte more", append(slices.Clone(c.b), more))
		}
		isNone(t, c.name+", twice", slices.Concat(c.b, c.b))
	}
	isNone(t, "nil", nil)
	isNone(t, "empty", []byte{})
}

func TestBytesOfNoRecord(t *testing.T) {
	fact0 := "00 0000000000000001"
	take := "07 00000001 00000002 00000003 "
	for _, c := range []struct{ name, b string }{
		{"kind 0", "00 00000000"},
		{"kind 8", "08 00000000"},
		{"kind 8, with what a take has", "08 00000001 00000002 00000003 00000000"},
		{"kind 255", "ff 00000000"},
		{"a map with a number", "06 00000001 00000000 00"},
		{"a map with the greatest number", "06 ffffffff 00000000 00"},
		{"an abort with what a commit has", "03 00000001 00000001 00"},

		{"one node more than there are", "01 00000001 01 00000000"},
		{"nodes: a count above what follows", "02 00000001 00000001 02 00"},
		{"nodes: the greatest count", "02 00000001 00000001 ff 00 01 02 03 04 05"},
		{"nodes: a count below what follows", "02 00000001 00000001 01 00 01"},
		{"places: a count above what follows", "01 00000001 00 00000001 05 00000000 0000000000000001"},
		{"places: the greatest count", "01 00000001 00 00000001 ff 00000000 0000000000000001"},
		{"places: a count below what follows", "01 00000001 00 00000001 00 00000001 0000000000000001"},
		{"facts: a count above what follows", "01 00000001 00 00000002" + fact0},
		{"facts: the greatest count", "01 00000001 00 ffffffff" + fact0},
		{"facts: a count of 2^31", "01 00000001 00 80000000" + fact0},
		{"facts: a count of 2^24 and one", "01 00000001 00 01000001" + fact0},
		{"facts: a count below what follows", "01 00000001 00 00000000" + fact0},
		{"entries: a count above what follows", take + "00000002 00000001 00000000"},
		{"entries: the greatest count", take + "ffffffff 00000001 00000000"},
		{"entries: a count of 2^31", take + "80000000"},
		{"entries: a count below what follows", take + "00000000 00000001 00000000"},
		{"facts of an entry: a count above what follows", take + "00000001 00000001 00000002" + fact0},
		{"facts of an entry: the greatest count", take + "00000001 00000001 ffffffff" + fact0},
		{"facts of an entry: a count below what follows", take + "00000001 00000001 00000000" + fact0},
		{"spans: a count above what follows", "06 00000000 00000001 02 00000000 00"},
		{"spans: the greatest count", "06 00000000 00000001 ff 00000000 00"},
		{"spans: a count below what follows", "06 00000000 00000001 00 00000000 00"},

		{"a node twice", "02 00000001 00000001 02 01 01"},
		{"nodes that fall", "02 00000001 00000001 02 01 00"},
		{"node 6", "02 00000001 00000001 01 06"},
		{"node 255", "02 00000001 00000001 01 ff"},
		{"7 nodes", "02 00000001 00000001 07 00 01 02 03 04 05 06"},
		{"a node twice, of a prepare", "01 00000001 02 01 01 00000000"},
		{"node 6, of a prepare", "01 00000001 01 06 00000000"},
		{"place 10000", "01 00000001 00 00000001 01 00002710 0000000000000001"},
		{"place 2^31", "01 00000001 00 00000001 01 80000000 0000000000000001"},
		{"a place of all bits", "01 00000001 00 00000001 01 ffffffff 0000000000000001"},
		{"5 places", "01 00000001 00 00000001 05" + strings.Repeat("00000000", 5) + "0000000000000001"},
		{"201 facts", "01 00000001 00 000000c9" + strings.Repeat(fact0, 201)},
		{"201 facts of an entry", take + "00000001 00000001 000000c9" + strings.Repeat(fact0, 201)},
		{"place 10000, of an entry", take + "00000001 00000001 00000001 01 00002710 0000000000000001"},
		{"At twice", take + "00000002 00000001 00000000 00000001 00000000"},
		{"At that falls", take + "00000002 00000002 00000000 00000001 00000000"},
		{"5001 entries", take + "00001389" + hex.EncodeToString(fiveThousandAndOne())},
		{"41 spans", "06 00000000 00000001 29" + strings.Repeat("00000000 00", 41)},
		{"From 10000 of a span", "06 00000000 00000001 01 00002710 00"},
		{"From of all bits of a span", "06 00000000 00000001 01 ffffffff 00"},
		{"Node 6 of a span", "06 00000000 00000001 01 00000000 06"},
		{"Node 255 of a span", "06 00000000 00000001 01 00000000 ff"},
		{"From 10001", "07 00000001 00002711 00000003 00000000"},
		{"From of all bits", "07 00000001 ffffffff 00000003 00000000"},
		{"To 10001", "07 00000001 00000002 00002711 00000000"},
		{"To of all bits", "07 00000001 00000002 ffffffff 00000000"},
	} {
		isNone(t, c.name, raw(c.b))
	}
}

// fiveThousandAndOne is the bytes of so many entries with no facts.
func fiveThousandAndOne() (b []byte) {
	for at := range 5001 {
		b = append(b, 0, 0, byte(at>>8), byte(at), 0, 0, 0, 0)
	}
	return b
}

// A count alone makes no memory: a few bytes, decoded, cost little, whatever they count.
func TestCountsMakeNoMemory(t *testing.T) {
	for _, s := range []string{"01 00000001 00 ffffffff", "07 00000001 00000002 00000003 ffffffff", "07 00000001 00000002 00000003 00000001 00000001 ffffffff"} {
		b := raw(s)
		var before, behind runtime.MemStats
		runtime.ReadMemStats(&before)
		Decode(b)
		runtime.ReadMemStats(&behind)
		if n := behind.TotalAlloc - before.TotalAlloc; n > 1<<20 {
			t.Errorf("%s: %d bytes of memory", s, n)
		}
	}
}

func drawer() *rand.Rand { return rand.New(rand.NewSource(7)) }

func drawFacts(s *rand.Rand, most int) []api.Fact {
	out := make([]api.Fact, s.Intn(most+1))
	for i := range out {
		out[i].V = int64(s.Uint64()) >> s.Intn(64)
		for range s.Intn(api.MaxDims + 1) {
			out[i].Key = append(out[i].Key, s.Intn(api.MaxSize))
		}
	}
	return out
}

func drawNodes(s *rand.Rand) (out []int) {
	for n := range api.MaxNodes {
		if s.Intn(2) == 0 {
			out = append(out, n)
		}
	}
	return out
}

// drawRec is a record that is sound.
func drawRec(s *rand.Rand) api.Rec {
	r := api.Rec{Kind: uint8(1 + s.Intn(7)), ID: s.Uint32() >> s.Intn(32)}
	switch r.Kind {
	case api.RecPrepare:
		r.Nodes, r.Facts = drawNodes(s), drawFacts(s, 9)
	case api.RecCommit:
		r.At, r.Nodes = s.Uint32()>>s.Intn(32), drawNodes(s)
	case api.RecMap:
		r.ID, r.Map.Epoch = 0, s.Uint32()>>s.Intn(32)
		for range s.Intn(api.MaxSpans + 1) {
			r.Map.L = append(r.Map.L, api.Span{From: s.Intn(api.MaxSize), Node: s.Intn(api.MaxNodes)})
		}
	case api.RecTake:
		r.From, r.To = s.Intn(api.MaxSize+1), s.Intn(api.MaxSize+1)
		at := uint32(0)
		for range s.Intn(6) {
			r.Entries = append(r.Entries, api.Entry{At: at, Facts: drawFacts(s, 5)})
			at += 1 + s.Uint32()>>(4+s.Intn(28))
		}
	}
	return r
}

// There and back; and what was there before is there again when it is done twice.
func TestThereAndBackOfMany(t *testing.T) {
	s := drawer()
	for range 5000 {
		r := drawRec(s)
		b, e := Encode(r)
		if !Sound(r) || e != api.OK {
			t.Fatalf("Encode(%v): %v", r, e)
		}
		back, e := Decode(b)
		if !same(back, r) || e != api.OK {
			t.Fatalf("Decode(% x) = %v, %v, want %v", b, back, e, r)
		}
		if again, e := Encode(back); !bytes.Equal(again, b) || e != api.OK {
			t.Fatalf("again: % x, %v, want % x", again, e, b)
		}
	}
}

// oneWay says what holds of any bytes: they are those of the record that they tell, or none's.
func oneWay(t *testing.T, b []byte) bool {
	t.Helper()
	kept := slices.Clone(b)
	r, e := Decode(b)
	if !bytes.Equal(kept, b) {
		t.Fatalf("% x was changed", kept)
	}
	if e != api.OK {
		want := api.ErrCode
		if len(b) > api.MaxBytes {
			want = api.ErrLimit
		}
		if e != want || !zero(r) {
			t.Fatalf("Decode(% x) = %v, %v", b, r, e)
		}
		return false
	}
	again, e := Encode(r)
	if !Sound(r) || !bytes.Equal(again, b) || e != api.OK {
		t.Fatalf("Decode(% x) = %v, which is % x, %v", b, r, again, e)
	}
	return true
}

// In one way: bytes of records with some of them changed, taken out or put in.
func TestOneWay(t *testing.T) {
	s := drawer()
	seen := [2]int{}
	for range 60000 {
		b, _ := Encode(drawRec(s))
		for range 1 + s.Intn(2) {
			i := s.Intn(len(b) + 1)
			switch s.Intn(4) {
			case 0:
				b = slices.Insert(b, i, byte(s.Intn(8)))
			case 1:
				b = slices.Delete(b, i, min(len(b), i+1+s.Intn(9)))
			case 2:
				if i < len(b) {
					b[i] ^= 1 << s.Intn(8)
				}
			default:
				if i < len(b) {
					b[i] = byte(s.Intn(8))
				}
			}
		}
		at := 0
		if oneWay(t, b) {
			at = 1
		}
		seen[at]++
	}
	if seen[0] < 5000 || seen[1] < 5000 {
		t.Errorf("records and no records were: %v", seen)
	}
}

// T7: all short bytes, and any others.
func TestAnyBytes(t *testing.T) {
	for a := range 256 {
		oneWay(t, []byte{byte(a)})
		for b := range 256 {
			oneWay(t, []byte{byte(a), byte(b)})
			oneWay(t, []byte{byte(a), 0, 0, 0, byte(b)})
			oneWay(t, []byte{byte(a % 9), 0, 0, 0, 0, byte(b), 0, 0, 0, 0})
		}
	}
	s := drawer()
	for range 20000 {
		b := make([]byte, s.Intn(64))
		s.Read(b)
		if len(b) > 0 {
			b[0] %= 9
		}
		oneWay(t, b)
	}
}

func FuzzDecode(f *testing.F) {
	for _, c := range all() {
		f.Add(c.b)
	}
	f.Fuzz(func(t *testing.T, b []byte) { oneWay(t, b) })
}

// T7 of records: whatever they hold, Sound and Encode agree, and what is encoded comes back.
func TestAnyRecords(t *testing.T) {
	s := drawer()
	odd := []int{0, 0, 1, 2, 5, 6, 9999, 10000, 10001, -1, 1 << 32, math.MinInt, math.MaxInt}
	some := func() int { return odd[s.Intn(len(odd))] }
	list := func() (l []int) {
		for range s.Intn(3) * s.Intn(4) {
			l = append(l, some())
		}
		return l
	}
	sound := 0
	for range 40000 {
		r := drawRec(s)
		switch s.Intn(12) {
		case 0:
			r.Kind = uint8(some())
		case 1:
			r.ID = uint32(some())
		case 2:
			r.At = uint32(some())
		case 3:
			r.Nodes = list()
		case 4:
			r.Facts = append(r.Facts, api.Fact{Key: list()})
		case 5:
			r.Map.Epoch = uint32(some())
		case 6:
			r.Map.L = append(r.Map.L, api.Span{From: some(), Node: some()})
		case 7:
			r.From = some()
		case 8:
			r.To = some()
		case 9:
			r.Entries = append(r.Entries, api.Entry{At: uint32(some()), Facts: []api.Fact{{Key: list()}}})
		}
		b, e := Encode(r)
		if !Sound(r) {
			if e != api.ErrArg || len(b) != 0 {
				t.Fatalf("Encode(%v) = % x, %v", r, b, e)
			}
			continue
		}
		sound++
		if back, f := Decode(b); e != api.OK || f != api.OK || !same(back, r) {
			t.Fatalf("Encode(%v) = % x, %v; back %v, %v", r, b, e, back, f)
		}
	}
	if sound < 5000 || sound > 35000 {
		t.Errorf("sound were %d", sound)
	}
}

// No two records have the same bytes, and no one's are the front of another's.
func TestBytesAreApart(t *testing.T) {
	l := all()
	for i, a := range l {
		for j, b := range l {
			if i != j && bytes.HasPrefix(a.b, b.b) {
				t.Errorf("%s begins as %s", a.name, b.name)
			}
		}
	}
}

func TestArgumentsStay(t *testing.T) {
	for _, c := range all() {
		r, b := plain(c.r), slices.Clone(c.b)
		Sound(c.r)
		Encode(c.r)
		Decode(c.b)
		if !same(c.r, r) || !bytes.Equal(c.b, b) {
			t.Errorf("%s: changed: %v, % x", c.name, c.r, c.b)
		}
	}
}

// hide is a list with something behind its length.
func hide[T any](l []T, behind T) []T {
	out := append(slices.Clone(l), behind, behind, behind)
	return out[:len(l)]
}

// hidden is a record all of whose lists have something wrong behind their lengths.
func hidden(r api.Rec) api.Rec {
	bad := fact(-1, -1)
	hideFacts := func(l []api.Fact) []api.Fact {
		l = slices.Clone(l)
		for i := range l {
			l[i].Key = hide(l[i].Key, -1)
		}
		return hide(l, bad)
	}
	r.Nodes, r.Facts = hide(r.Nodes, -1), hideFacts(r.Facts)
	r.Map.L = hide(r.Map.L, api.Span{From: -1})
	r.Entries = slices.Clone(r.Entries)
	for i := range r.Entries {
		r.Entries[i].Facts = hideFacts(r.Entries[i].Facts)
	}
	r.Entries = hide(r.Entries, api.Entry{Facts: []api.Fact{bad}})
	return r
}

// behind is what lies behind the lengths of a record's lists.
func behind(r api.Rec) []any {
	out := []any{r.Nodes[len(r.Nodes):cap(r.Nodes)], r.Facts[len(r.Facts):cap(r.Facts)], r.Map.L[len(r.Map.L):cap(r.Map.L)], r.Entries[len(r.Entries):cap(r.Entries)]}
	lists := [][]api.Fact{r.Facts}
	for _, e := range r.Entries {
		lists = append(lists, e.Facts)
	}
	for _, l := range lists {
		out = append(out, l[len(l):cap(l)])
		for _, f := range l {
			out = append(out, f.Key[len(f.Key):cap(f.Key)])
		}
	}
	return out
}

func TestWhatLiesBehind(t *testing.T) {
	for _, c := range all() {
		r, fresh := hidden(c.r), hidden(c.r)
		if got, e := Encode(r); !Sound(r) || !bytes.Equal(got, c.b) || e != api.OK {
			t.Errorf("%s: Encode: % x, %v", c.name, got, e)
		}
		if !reflect.DeepEqual(behind(r), behind(fresh)) {
			t.Errorf("%s: written behind a list", c.name)
		}
		for n := range len(c.b) + 1 {
			whole := append(slices.Clone(c.b), 9, 9, 9)
			got, e := Decode(whole[:n])
			if n < len(c.b) && (!zero(got) || e != api.ErrCode) || n == len(c.b) && (!same(got, c.r) || e != api.OK) {
				t.Errorf("%s: Decode of %d bytes: %v, %v", c.name, n, got, e)
			}
			if !bytes.Equal(whole, append(slices.Clone(c.b), 9, 9, 9)) {
				t.Errorf("%s: written behind %d bytes", c.name, n)
			}
		}
	}
}

// spoil writes over all of a list that can be reached, behind its length too.
func spoil[T any](l []T, with T) {
	l = l[:cap(l)]
	for i := range l {
		l[i] = with
	}
}

// spoilRec writes over all that can be reached from a record.
func spoilRec(r api.Rec) {
	lists := [][]api.Fact{r.Facts}
	for _, e := range r.Entries {
		lists = append(lists, e.Facts)
	}
	for _, l := range lists {
		for _, f := range l {
			spoil(f.Key, 77)
		}
		spoil(l, fact(77, 77))
	}
	spoil(r.Nodes, 77)
	spoil(r.Map.L, api.Span{From: 77, Node: 77})
	spoil(r.Entries, api.Entry{At: 77})
}

func TestNewMemory(t *testing.T) {
	for _, c := range all() {
		given := plain(c.r)
		a, _ := Encode(given)
		b, _ := Encode(given)
		spoil(a, 77)
		if !bytes.Equal(b, c.b) || !same(given, c.r) {
			t.Errorf("%s: the bytes of two calls, or a record and its bytes, share memory", c.name)
		}
		spoilRec(given)
		if !bytes.Equal(b, c.b) {
			t.Errorf("%s: bytes hang on the record", c.name)
		}
		from := slices.Clone(c.b)
		x, _ := Decode(from)
		y, _ := Decode(from)
		spoilRec(x)
		if !same(y, c.r) || !bytes.Equal(from, c.b) {
			t.Errorf("%s: the records of two calls, or bytes and their record, share memory", c.name)
		}
		spoil(from, 77)
		if !same(y, c.r) {
			t.Errorf("%s: a record hangs on its bytes", c.name)
		}
	}
}

// No two lists of one answer share memory: each is written over in its turn, up to what it may grow to, and all others stay.
func TestListsOfOneAnswerAreApart(t *testing.T) {
	keys := func(r api.Rec) (out []*[]int) {
		out = append(out, &r.Nodes)
		for i := range r.Facts {
			out = append(out, &r.Facts[i].Key)
		}
		for i := range r.Entries {
			for j := range r.Entries[i].Facts {
				out = append(out, &r.Entries[i].Facts[j].Key)
			}
		}
		return out
	}
	for _, c := range ordinary() {
		r, _ := Decode(c.b)
		for i, k := range keys(r) {
			spoil(*k, 77)
			for j, other := range keys(r) {
				if want := *keys(c.r)[j]; j > i && !slices.Equal(*other, want) {
					t.Errorf("%s: list %d went with %d", c.name, j, i)
				}
			}
		}
		r, _ = Decode(c.b)
		for i := range r.Entries {
			spoil(r.Entries[i].Facts, fact(77))
			for j := i + 1; j < len(r.Entries); j++ {
				if !reflect.DeepEqual(plainFacts(r.Entries[j].Facts), plainFacts(c.r.Entries[j].Facts)) {
					t.Errorf("%s: facts of entry %d went with those of %d", c.name, j, i)
				}
			}
		}
	}
}
