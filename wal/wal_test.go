package wal

import (
	"bytes"
	"encoding/binary"
	"encoding/hex"
	"fmt"
	"hash/adler32"
	"math"
	"math/rand"
	"reflect"
	"slices"
	"strings"
	"sync"
	"testing"

	"stratum/api"
	"stratum/code"
	"stratum/disk"
)

// raw is bytes written out, in as many pieces as one likes.
func raw(pieces ...string) []byte {
	b, err := hex.DecodeString(strings.ReplaceAll(strings.Join(pieces, ""), " ", ""))
	if err != nil {
		panic(err)
	}
	return b
}

// bytesOf is n bytes of some kind, drawn from a source of a fixed seed.
func bytesOf(n int, seed int64) []byte {
	b := make([]byte, n)
	rand.New(rand.NewSource(seed)).Read(b)
	return b
}

func fact(v int64, places ...int) api.Fact { return api.Fact{Key: places, V: v} }

// facts is so many facts, of so many places each.
func facts(n, places int) []api.Fact {
	var out []api.Fact
	for i := range n {
		f := api.Fact{V: int64(i) - 100}
		for p := range places {
			f.Key = append(f.Key, i*7+p)
		}
		out = append(out, f)
	}
	return out
}

func abort(id uint32) api.Rec { return api.Rec{Kind: api.RecAbort, ID: id} }

// ordinary is a record of each kind.
func ordinary() []api.Rec {
	return []api.Rec{
		{Kind: api.RecPrepare, ID: 1, Nodes: []int{0, 2}, Facts: []api.Fact{fact(-1, 3), fact(258, 4, 500), fact(7)}},
		{Kind: api.RecCommit, ID: 0x01020304, At: 0x05060708, Nodes: []int{1, 3, 4}},
		abort(5),
		{Kind: api.RecEnd, ID: 2001},
		{Kind: api.RecStart, ID: math.MaxUint32},
		{Kind: api.RecMap, Map: api.Map{Epoch: 2, L: []api.Span{{From: 0, Node: 0}, {From: 30, Node: 1}, {From: 300, Node: 0}}}},
		{Kind: api.RecTake, ID: 7, From: 50, To: 100, Entries: []api.Entry{{At: 1, Facts: []api.Fact{fact(9, 60)}}, {At: 4, Facts: []api.Fact{fact(2, 51), fact(-2, 51)}}}},
	}
}

// sized is a record of n bytes, of some 51000 on: entries of 5008 bytes, one of facts of 9 bytes each, and as many as are needed of 8 bytes.
func sized(n int) api.Rec {
	var l []api.Entry
	for i := range 10 {
		l = append(l, api.Entry{At: uint32(i), Facts: facts(api.MaxFacts, api.MaxDims)})
	}
	rest := n - 17 - 10*5008 - 8
	l = append(l, api.Entry{At: 10, Facts: facts(rest%8, 0)})
	for range (rest - rest%8*9) / 8 {
		l = append(l, api.Entry{At: uint32(len(l))})
	}
	return api.Rec{Kind: api.RecTake, ID: 3, From: 1, To: 2, Entries: l}
}

// unsound is records that Encode refuses for what they are.
func unsound() []api.Rec {
	return []api.Rec{
		{},
		{ID: 5},
		{Kind: 8},
		{Kind: 255, ID: 5},
		{Kind: api.RecAbort, At: 1},
		{Kind: api.RecAbort, Facts: facts(1, 1)},
		{Kind: api.RecMap, ID: 1},
		{Kind: api.RecCommit, Nodes: []int{1, 1}},
		{Kind: api.RecCommit, Nodes: []int{6}},
		{Kind: api.RecPrepare, Facts: []api.Fact{fact(1, -1)}},
		{Kind: api.RecPrepare, Facts: []api.Fact{fact(1, 10000)}},
		{Kind: api.RecPrepare, Facts: facts(201, 1)},
		{Kind: api.RecTake, From: -1},
		{Kind: api.RecTake, To: 10001, Entries: sized(60001).Entries},
		{Kind: api.RecTake, Entries: []api.Entry{{At: 1}, {At: 1}}},
	}
}

// encoded is a record's bytes.
func encoded(r api.Rec) []byte {
	b, e := code.Encode(r)
	if e != api.OK {
		panic(e)
	}
	return b
}

// saying is bytes with a head that says so many, and the sum of both: a frame, where the head is right.
func saying(n int, b []byte) []byte {
	out := append([]byte{byte(n >> 16), byte(n >> 8), byte(n)}, b...)
	return binary.BigEndian.AppendUint32(out, adler32.Checksum(out))
}

// wrapped is a frame by chapter 9's words.
func wrapped(b []byte) []byte { return saying(len(b), b) }

// laid is records as they stand in a log, one behind the other.
func laid(l ...api.Rec) []byte {
	var out []byte
	for _, r := range l {
		out = append(out, wrapped(encoded(r))...)
	}
	return out
}

// read is what a log's bytes tell, by the chapter's words, and how many bytes that has.
func read(b []byte) ([]api.Rec, int) {
	var l []api.Rec
	n := 0
	for len(b)-n >= 7 {
		size := int(b[n])*65536 + int(b[n+1])*256 + int(b[n+2])
		end := n + 3 + size
		if size > 60000 || end+4 > len(b) || binary.BigEndian.Uint32(b[end:]) != adler32.Checksum(b[n:end]) {
			break
		}
		r, e := code.Decode(slices.Clone(b[n+3 : end]))
		if e != api.OK {
			break
		}
		l = append(l, r)
		n = end + 4
	}
	return l, n
}

// plain is a record in memory of its own; lists with nothing in them are nil.
func plain(r api.Rec) api.Rec {
	r.Nodes, r.Facts = append([]int(nil), r.Nodes...), plainFacts(r.Facts)
	r.Map.L = append([]api.Span(nil), r.Map.L...)
	var entries []api.Entry
	for _, e := range r.Entries {
		entries = append(entries, api.Entry{At: e.At, Facts: plainFacts(e.Facts)})
	}
	r.Entries = entries
	return r
}

func plainFacts(l []api.Fact) []api.Fact {
	var out []api.Fact
	for _, f := range l {
		out = append(out, api.Fact{Key: append([]int(nil), f.Key...), V: f.V})
	}
	return out
}

func same(a, b []api.Rec) bool {
	return slices.EqualFunc(a, b, func(x, y api.Rec) bool { return reflect.DeepEqual(plain(x), plain(y)) })
}

// short tells of records, but not of all that is in them.
func short(l []api.Rec) string {
	var out []string
	for _, r := range l[:min(len(l), 20)] {
		out = append(out, fmt.Sprintf("%d:%d", r.Kind, r.ID))
	}
	return fmt.Sprintf("%d records %v", len(l), out)
}

// holding is a disk with a front that lasts, and more behind it.
func holding(t *testing.T, room int, lasts, rest []byte) *disk.Disk {
	t.Helper()
	d := disk.New(room)
	if d == nil {
		t.Fatalf("disk.New(%d) is nil", room)
	}
	asked(t, "disk.Append", d.Append(lasts), api.OK)
	asked(t, "disk.Sync", d.Sync(), api.OK)
	asked(t, "disk.Append", d.Append(rest), api.OK)
	return d
}

func asked(t *testing.T, name string, got, want api.Errno) {
	t.Helper()
	if got != want {
		t.Errorf("%s: %v, want %v", name, got, want)
	}
}

// is holds what a disk has against what is wanted.
func is(t *testing.T, name string, d *disk.Disk, want []byte) {
	t.Helper()
	if b := d.Read(); !bytes.Equal(b, want) {
		t.Errorf("%s: %d bytes are there, % x, want %d, % x", name, len(b), b[:min(len(b), 40)], len(want), want[:min(len(want), 40)])
	}
}

// opened is a log that can be opened, and tells these.
func opened(t *testing.T, name string, d *disk.Disk, want ...api.Rec) *Log {
	t.Helper()
	l, got, e := Open(d)
	if l == nil || e != api.OK || !same(got, want) {
		t.Fatalf("%s: Open: %v, %s, want %s", name, e, short(got), short(want))
	}
	return l
}

// refused is a disk of which no log can be opened.
func refused(t *testing.T, name string, d *disk.Disk, want api.Errno) {
	t.Helper()
	if l, got, e := Open(d); l != nil || len(got) != 0 || e != want {
		t.Errorf("%s: Open: %v, %v, %s, want nil, %v and nothing", name, l, e, short(got), want)
	}
}

// left counts the calls that are left of a disk that has a count of a few, and uses them up.
func left(d *disk.Disk) int {
	for n := range 20 {
		if d.Halted() {
			return n
		}
		d.Cut(-1)
	}
	return math.MaxInt
}

func TestTheChaptersExample(t *testing.T) {
	d := disk.New(900)
	l := opened(t, "new", d)
	asked(t, "Force", l.Force(abort(5)), api.OK)
	asked(t, "Lazy", l.Lazy(abort(6)), api.OK)
	is(t, "both are there", d, raw("000005 0300000005 003a000e", "000005 0300000006 003b000f"))
	d.Crash(0)
	is(t, "one is left", d, raw("000005 0300000005 003a000e"))
	opened(t, "behind a crash", d, abort(5))
}

func TestRecordsAsBytes(t *testing.T) {
	for _, lay := range []func(*Log, api.Rec) api.Errno{(*Log).Lazy, (*Log).Force} {
		d := disk.New(1 << 20)
		l := opened(t, "new", d)
		var all []byte
		for _, r := range append(ordinary(), sized(52000), sized(60000), abort(0)) {
			asked(t, "laid", lay(l, r), api.OK)
			all = append(all, wrapped(encoded(r))...)
			is(t, "frames of records' bytes", d, all)
		}
	}
}

func TestOpenOfNothing(t *testing.T) {
	for _, room := range []int{0, 1, 12, 100, 1 << 20} {
		d := disk.New(room)
		d.Halt(2)
		l := opened(t, "empty", d)
		is(t, "empty", d, nil)
		if n := left(d); n != 1 {
			t.Errorf("empty, of two calls: %d are left, want Sync alone done", n)
		}
		asked(t, "halted", l.Lazy(abort(1)), api.ErrFull)
	}
	if _, got, _ := Open(disk.New(5)); len(got) != 0 {
		t.Errorf("empty: %s", short(got))
	}
}

func TestOpenOfWholeRecords(t *testing.T) {
	all := append(ordinary(), sized(60000), abort(5), abort(5))
	for n := range len(all) + 1 {
		for lasts := range n + 1 {
			front, rest := laid(all[:lasts]...), laid(all[lasts:n]...)
			d := holding(t, 1<<20, front, rest)
			d.Halt(2)
			opened(t, "whole records", d, all[:n]...)
			if calls := left(d); calls != 1 {
				t.Errorf("%d records, of two calls: %d are left, want Sync alone done", n, calls)
			}
			d.Crash(0)
			is(t, "all of it lasts", d, slices.Concat(front, rest))
			opened(t, "again, behind a crash", d, all[:n]...)
		}
	}
}

// tail is bytes that are not told when they stand behind records, and why.
type tail struct {
	name string
	b    []byte
}

// tails is some that begin with no frame, and some that begin with a frame that is no record's.
func tails() []tail {
	good := laid(abort(9))
	return []tail{
		{"a byte 0", raw("00")},
		{"a byte 255", raw("ff")},
		{"bytes 0", make([]byte, 100)},
		{"bytes 255", bytes.Repeat([]byte{255}, 100)},
		{"bytes of some kind", bytesOf(1000, 1)},
		{"very many bytes of some kind", bytesOf(700000, 2)},
		{"a record that is in no frame", encoded(abort(9))},
		{"a frame that says one byte more", saying(6, encoded(abort(9)))},
		{"a frame that says one byte fewer", saying(4, encoded(abort(9)))},
		{"a frame of a wrong sum", raw("000005 0300000005 003a000d")},
		{"a frame of more than 60000 bytes", wrapped(tooLong(60001))},
		{"a byte, then a record", slices.Concat(raw("00"), good)},
		{"a frame of nothing", wrapped(nil)},
		{"a frame of nothing, then a record", slices.Concat(wrapped(nil), good)},
		{"a frame of a kind alone", wrapped(raw("03"))},
		{"a frame of a record that is cut off", wrapped(raw("03 000000"))},
		{"a frame of a record and a byte", wrapped(raw("03 00000009 00"))},
		{"a frame of two records", wrapped(raw("03 00000009 03 00000009"))},
		{"a frame of kind 0", wrapped(raw("00 00000009"))},
		{"a frame of kind 8", wrapped(raw("08 00000009"))},
		{"a frame of nodes that don't rise", wrapped(raw("02 00000009 00000001 02 01 01"))},
		{"a frame of a map with a number", wrapped(raw("06 00000001 00000001 00"))},
		{"a frame in a frame", wrapped(good)},
		{"a frame of 60000 bytes that are no record's", wrapped(bytesOf(60000, 3))},
		{"a frame of no record, then records", slices.Concat(wrapped(raw("08 00000009")), good, laid(ordinary()...))},
		{"a frame of no record, then bytes that are no frame", slices.Concat(wrapped(raw("08 00000009")), raw("ff"))},
		{"a frame of no record, then another", slices.Concat(wrapped(raw("08 00000009")), wrapped(raw("00")))},
	}
}

// tooLong is n bytes that would be a record's, if there might be as many: two entries stand behind those of a shorter one.
func tooLong(n int) []byte {
	b := encoded(sized(n - 16))
	entries := binary.BigEndian.Uint32(b[13:])
	binary.BigEndian.PutUint32(b[13:], entries+2)
	return append(b, raw("00001386 00000000", "00001387 00000000")...)
}

// fronts is records ahead of what is not told.
func fronts() [][]api.Rec {
	return [][]api.Rec{nil, {abort(5)}, {abort(5), abort(5)}, ordinary(), {sized(60000), abort(0)}}
}

// trimmed is what Open does with a tail that is not told: it is cut, and what is left lasts.
func trimmed(t *testing.T, name string, front []api.Rec, tail []byte) {
	t.Helper()
	for _, synced := range []bool{false, true} {
		d := holding(t, 1<<20, nil, slices.Concat(laid(front...), tail))
		if synced {
			asked(t, "disk.Sync", d.Sync(), api.OK)
		}
		d.Halt(3)
		l := opened(t, name, d, front...)
		is(t, name+": what is left", d, laid(front...))
		if n := left(d); n != 1 {
			t.Errorf("%s, of three calls: %d are left, want Cut and Sync done", name, n)
		}
		d.Crash(0)
		is(t, name+": what is left lasts", d, laid(front...))
		asked(t, name+": Force", l.Force(abort(77)), api.OK)
		d.Crash(0)
		opened(t, name+": more behind", d, append(slices.Clone(front), abort(77))...)
	}
}

func TestOpenOfRecordsAndMore(t *testing.T) {
	for _, front := range fronts() {
		for _, c := range tails() {
			trimmed(t, c.name, front, c.b)
		}
	}
}

// The last frame is cut off at each length.
func TestOpenOfAFrameThatIsCutOff(t *testing.T) {
	for _, last := range ordinary() {
		whole := laid(last)
		for _, front := range [][]api.Rec{nil, {abort(5)}, ordinary()} {
			for n := 1; n < len(whole); n++ {
				trimmed(t, fmt.Sprintf("kind %d cut off at %d", last.Kind, n), front, whole[:n])
			}
		}
	}
	whole := laid(sized(60000))
	for _, n := range []int{1, 2, 3, 4, 7, 1000, 59999, 60000, 60002, 60003, 60004, 60006} {
		trimmed(t, fmt.Sprintf("60000 bytes cut off at %d", n), fronts()[1], whole[:n])
	}
}

// One byte is bent, at each place: the records ahead of the frame are told, none of those from it on.
func TestOpenOfABentByte(t *testing.T) {
	all := []api.Rec{abort(5), ordinary()[0], ordinary()[1], abort(6)}
	whole := laid(all...)
	for place := range whole {
		n := 0
		for len(laid(all[:n+1]...)) <= place {
			n++
		}
		for _, bend := range []byte{1, 128, 255} {
			b := slices.Clone(whole)
			b[place] ^= bend
			trimmed(t, fmt.Sprintf("byte %d bent by %d", place, bend), all[:n], b[len(laid(all[:n]...)):])
		}
	}
}

// Open of a disk that halts at its first call, and at its second.
func TestOpenOfADiskThatHalts(t *testing.T) {
	for _, front := range fronts() {
		whole := laid(front...)
		d := holding(t, 1<<20, nil, whole)
		d.Halt(0)
		refused(t, "halted, whole records", d, api.ErrFull)
		is(t, "halted, whole records", d, whole)
		d.Crash(0)
		is(t, "nothing was made to last", d, nil)
		d = holding(t, 1<<20, whole, nil)
		d.Halt(0)
		refused(t, "halted, whole records that last", d, api.ErrFull)
		d.Crash(0)
		opened(t, "behind a crash", d, front...)
		for _, c := range tails() {
			all := slices.Concat(whole, c.b)
			d := holding(t, 1<<20, nil, all)
			d.Halt(0)
			refused(t, "halts at the Cut", d, api.ErrFull)
			is(t, "halts at the Cut", d, all)
			d.Crash(0)
			is(t, "halts at the Cut, nothing was made to last", d, nil)
			d = holding(t, 1<<20, nil, all)
			d.Halt(1)
			refused(t, "halts at the Sync", d, api.ErrFull)
			is(t, "halts at the Sync", d, whole)
			d.Crash(0)
			is(t, "halts at the Sync, nothing was made to last", d, nil)
			d = holding(t, 1<<20, all, nil)
			d.Halt(1)
			refused(t, "halts at the Sync", d, api.ErrFull)
			d.Crash(0)
			opened(t, "cut, and then crashed", d, front...)
		}
	}
}

// What can't be encoded changes nothing, and asks nothing of the disk.
func TestRecordsThatAreRefused(t *testing.T) {
	refusals := map[api.Errno][]api.Rec{
		api.ErrArg:   unsound(),
		api.ErrLimit: {sized(60001), sized(60002), sized(61000)},
	}
	for want, recs := range refusals {
		for i, r := range recs {
			for name, lay := range lays() {
				name = fmt.Sprintf("%s, %v, %d", name, want, i)
				d := holding(t, 1<<20, laid(abort(5)), laid(abort(6)))
				l := &Log{d}
				d.Halt(3)
				asked(t, name, lay(l, r), want)
				is(t, name, d, laid(abort(5), abort(6)))
				if n := left(d); n != 3 {
					t.Errorf("%s, of three calls: %d are left", name, n)
				}
				asked(t, name+", halted", lay(l, r), want)
				d.Crash(0)
				is(t, name+": what lasts", d, laid(abort(5)))
			}
		}
	}
}

// lays is both calls by which a record is laid.
func lays() map[string]func(*Log, api.Rec) api.Errno {
	return map[string]func(*Log, api.Rec) api.Errno{"Lazy": (*Log).Lazy, "Force": (*Log).Force}
}

// A record that can't be encoded is told as that, also where there would be no room for it.
func TestWhichErrorComesFirst(t *testing.T) {
	for name, lay := range lays() {
		for _, halt := range []int{-1, 0, 1} {
			d := disk.New(3)
			d.Halt(halt)
			l := &Log{d}
			for _, r := range unsound() {
				asked(t, name+", not sound", lay(l, r), api.ErrArg)
			}
			asked(t, name+", too long", lay(l, sized(60001)), api.ErrLimit)
			asked(t, name+", no room", lay(l, abort(5)), api.ErrFull)
			is(t, name, d, nil)
		}
	}
}

func TestRoom(t *testing.T) {
	for _, r := range append(ordinary(), sized(60000)) {
		size := len(laid(r))
		front := laid(abort(1), abort(2))
		for name, lay := range lays() {
			for more := -3; more <= 3; more++ {
				d := disk.New(len(front) + size + more)
				l := opened(t, "new", d)
				asked(t, "Force", l.Force(abort(1)), api.OK)
				asked(t, "Lazy", l.Lazy(abort(2)), api.OK)
				if more < 0 {
					asked(t, name+", no room", lay(l, r), api.ErrFull)
					is(t, name+", no room", d, front)
					d.Crash(0)
					is(t, name+", no room: nothing more is made to last", d, laid(abort(1)))
					continue
				}
				asked(t, name+", room", lay(l, r), api.OK)
				is(t, name+", room", d, slices.Concat(front, laid(r)))
				opened(t, name+", room", d, abort(1), abort(2), r)
			}
		}
	}
}

// What there is no room for leaves the room to others: a shorter record may still be laid.
func TestNoRoomForOneIsRoomForAnother(t *testing.T) {
	for name, lay := range lays() {
		d := disk.New(30)
		l := opened(t, "new", d)
		asked(t, name, lay(l, abort(1)), api.OK)
		asked(t, name+", no room", lay(l, ordinary()[0]), api.ErrFull)
		asked(t, name+", just room", lay(l, ordinary()[2]), api.OK)
		asked(t, name+", no room", lay(l, abort(3)), api.ErrFull)
		opened(t, name, d, abort(1), ordinary()[2])
	}
}

// How many calls of the disk each call uses up.
func TestCallsThatAreUsedUp(t *testing.T) {
	for _, c := range []struct {
		name string
		lay  func(*Log, api.Rec) api.Errno
		room int
		e    api.Errno
		used int
	}{
		{"Lazy", (*Log).Lazy, 100, api.OK, 1},
		{"Force", (*Log).Force, 100, api.OK, 2},
		{"Lazy, no room", (*Log).Lazy, 23, api.ErrFull, 1},
		{"Force, no room", (*Log).Force, 23, api.ErrFull, 1},
	} {
		d := disk.New(c.room)
		l := opened(t, "new", d)
		asked(t, "Lazy", l.Lazy(abort(4)), api.OK)
		d.Halt(9)
		asked(t, c.name, c.lay(l, abort(5)), c.e)
		if n := left(d); n != 9-c.used {
			t.Errorf("%s, of 9 calls: %d are left", c.name, n)
		}
	}
}

func TestLazyOnADiskThatHalts(t *testing.T) {
	d := holding(t, 100, laid(abort(1)), nil)
	l := opened(t, "one", d, abort(1))
	d.Halt(2)
	asked(t, "the first of two", l.Lazy(abort(2)), api.OK)
	asked(t, "the second of two", l.Lazy(abort(3)), api.OK)
	asked(t, "halted", l.Lazy(abort(4)), api.ErrFull)
	asked(t, "halted", l.Lazy(abort(5)), api.ErrFull)
	is(t, "halted", d, laid(abort(1), abort(2), abort(3)))
	d.Crash(12)
	opened(t, "behind a crash", d, abort(1), abort(2))
	asked(t, "it goes on", l.Lazy(abort(6)), api.OK)
	opened(t, "it goes on", d, abort(1), abort(2), abort(6))
}

// Force on a disk that halts at Append, at Sync (and so at Cut), and behind them.
func TestForceOnADiskThatHalts(t *testing.T) {
	r := ordinary()[0]
	for keep := range 100 {
		begin := func(halt int) (*disk.Disk, *Log) {
			d := disk.New(1000)
			l := opened(t, "new", d)
			asked(t, "Force", l.Force(abort(1)), api.OK)
			asked(t, "Lazy", l.Lazy(abort(2)), api.OK)
			d.Halt(halt)
			return d, l
		}
		d, l := begin(0)
		asked(t, "halted", l.Force(r), api.ErrFull)
		is(t, "halted", d, laid(abort(1), abort(2)))
		d.Crash(keep)
		is(t, "halted, crashed", d, laid(abort(1), abort(2))[:12+min(keep, 12)])

		d, l = begin(1)
		asked(t, "halts at Sync", l.Force(r), api.ErrFull)
		is(t, "halts at Sync, can't be cut", d, laid(abort(1), abort(2), r))
		if !d.Halted() {
			t.Error("halts at Sync: not halted")
		}
		d.Crash(keep)
		is(t, "halts at Sync, crashed", d, laid(abort(1), abort(2), r)[:12+min(keep, 12+len(laid(r)))])

		d, l = begin(2)
		asked(t, "halts behind Sync", l.Force(r), api.OK)
		if !d.Halted() {
			t.Error("halts behind Sync: not halted")
		}
		asked(t, "halted", l.Force(abort(3)), api.ErrFull)
		d.Crash(keep)
		is(t, "all lasts", d, laid(abort(1), abort(2), r))
		opened(t, "all lasts", d, abort(1), abort(2), r)

		d, l = begin(3)
		asked(t, "Force", l.Force(r), api.OK)
		asked(t, "halts at Sync", l.Force(abort(3)), api.ErrFull)
		d.Crash(0)
		opened(t, "the first lasts", d, abort(1), abort(2), r)
	}
}

// What is forced makes all last that was laid lazily ahead of it.
func TestForceMakesAllLast(t *testing.T) {
	d := disk.New(1000)
	l := opened(t, "new", d)
	for id := range uint32(5) {
		asked(t, "Lazy", l.Lazy(abort(id)), api.OK)
	}
	asked(t, "Force", l.Force(abort(5)), api.OK)
	asked(t, "Lazy", l.Lazy(abort(6)), api.OK)
	d.Crash(0)
	opened(t, "all up to what was forced", d, abort(0), abort(1), abort(2), abort(3), abort(4), abort(5))
	asked(t, "Lazy", l.Lazy(abort(7)), api.OK)
	d.Crash(0)
	opened(t, "Lazy alone doesn't last", d, abort(0), abort(1), abort(2), abort(3), abort(4), abort(5))
}

// Each row of records that are forced or laid lazily, and each crash.
func TestBehindAnyCrash(t *testing.T) {
	sizes := ordinary()
	for rows := range 1 << 7 {
		for n := range 7 {
			begin := func() (*disk.Disk, []api.Rec, int) {
				d := disk.New(1 << 12)
				l := opened(t, "new", d)
				var all []api.Rec
				sure := 0
				for i := range n {
					r := sizes[(i+rows)%len(sizes)]
					all = append(all, r)
					if rows>>i&1 == 0 {
						asked(t, "Lazy", l.Lazy(r), api.OK)
						continue
					}
					asked(t, "Force", l.Force(r), api.OK)
					sure = len(all)
				}
				return d, all, sure
			}
			d, all, sure := begin()
			rest := len(d.Read()) - len(laid(all[:sure]...))
			for _, keep := range []int{math.MinInt, -1, 0, 1, rest / 3, rest / 2, rest - 12, rest - 1, rest, rest + 1, math.MaxInt} {
				d, _, _ := begin()
				d.Crash(keep)
				whole := sure
				for whole < len(all) && len(laid(all[sure:whole+1]...)) <= keep {
					whole++
				}
				opened(t, fmt.Sprintf("row %b of %d, keep %d", rows, n, keep), d, all[:whole]...)
				for range 2 {
					opened(t, "again", d, all[:whole]...)
					d.Crash(0)
				}
			}
		}
	}
}

// Each count of bytes that a crash may keep: a front of what was laid lazily, by whole records.
func TestEachCountThatACrashKeeps(t *testing.T) {
	all := ordinary()
	whole := len(laid(all...))
	for sure := range len(all) + 1 {
		for keep := -2; keep <= whole+2; keep++ {
			d := disk.New(whole)
			l := opened(t, "new", d)
			for i, r := range all {
				if i+1 == sure {
					asked(t, "Force", l.Force(r), api.OK)
				} else {
					asked(t, "Lazy", l.Lazy(r), api.OK)
				}
			}
			d.Crash(keep)
			n := sure
			for n < len(all) && len(laid(all[sure:n+1]...)) <= keep {
				n++
			}
			l = opened(t, fmt.Sprintf("%d sure, keep %d", sure, keep), d, all[:n]...)
			is(t, "what is left", d, laid(all[:n]...))
			if n < len(all) {
				asked(t, "Force", l.Force(all[n]), api.OK)
				d.Crash(0)
				opened(t, "it goes on", d, all[:n+1]...)
			}
		}
	}
}

// Open behind Open tells the same, with or without a crash between.
func TestOpenAgain(t *testing.T) {
	for _, front := range fronts() {
		for _, c := range append(tails(), tail{"nothing", nil}) {
			d := holding(t, 1<<20, nil, slices.Concat(laid(front...), c.b))
			for i := range 6 {
				opened(t, c.name, d, front...)
				is(t, c.name, d, laid(front...))
				if i%2 == 1 {
					d.Crash(i - 3)
				}
			}
		}
	}
}

// What Open told once is told again behind any crash, though it was laid lazily.
func TestWhatOpenToldLasts(t *testing.T) {
	for keep := -1; keep < 3; keep++ {
		d := disk.New(1000)
		l := opened(t, "new", d)
		for _, r := range ordinary() {
			asked(t, "Lazy", l.Lazy(r), api.OK)
		}
		opened(t, "no crash yet", d, ordinary()...)
		d.Crash(keep)
		opened(t, "behind a crash", d, ordinary()...)
	}
}

// Two logs of one disk lay their records one behind the other: neither keeps anything beside the disk.
func TestTwoLogsOfOneDisk(t *testing.T) {
	d := disk.New(1000)
	a := opened(t, "one", d)
	asked(t, "Lazy", a.Lazy(abort(1)), api.OK)
	b := opened(t, "the other", d, abort(1))
	asked(t, "Lazy", b.Lazy(abort(2)), api.OK)
	asked(t, "Lazy", a.Lazy(abort(3)), api.OK)
	asked(t, "Force", b.Force(abort(4)), api.OK)
	asked(t, "Lazy", b.Lazy(abort(5)), api.OK)
	d.Crash(0)
	opened(t, "both", d, abort(1), abort(2), abort(3), abort(4))
	asked(t, "Lazy", a.Lazy(abort(6)), api.OK)
	asked(t, "Lazy", b.Lazy(abort(7)), api.OK)
	opened(t, "both", d, abort(1), abort(2), abort(3), abort(4), abort(6), abort(7))
}

// A log goes on where its disk ends, whatever became of that meanwhile.
func TestALogBehindACrash(t *testing.T) {
	d := disk.New(1000)
	l := opened(t, "new", d)
	asked(t, "Force", l.Force(abort(1)), api.OK)
	asked(t, "Lazy", l.Lazy(abort(2)), api.OK)
	d.Crash(0)
	asked(t, "Lazy", l.Lazy(abort(3)), api.OK)
	asked(t, "Force", l.Force(abort(4)), api.OK)
	d.Crash(0)
	opened(t, "behind a crash", d, abort(1), abort(3), abort(4))
	asked(t, "disk.Cut", d.Cut(12), api.OK)
	asked(t, "Force", l.Force(abort(5)), api.OK)
	d.Crash(0)
	opened(t, "behind a cut", d, abort(1), abort(5))
	asked(t, "disk.Append", d.Append(raw("ff")), api.OK)
	asked(t, "Force", l.Force(abort(6)), api.OK)
	opened(t, "behind bytes that are no frame", d, abort(1), abort(5))
}

func TestLogsKnowNothingOfOneAnother(t *testing.T) {
	a, b := disk.New(100), disk.New(100)
	one, other := opened(t, "one", a), opened(t, "the other", b)
	asked(t, "Force", one.Force(abort(1)), api.OK)
	asked(t, "Lazy", other.Lazy(abort(2)), api.OK)
	a.Halt(0)
	asked(t, "Force, halted", one.Force(abort(3)), api.ErrFull)
	asked(t, "Force", other.Force(abort(4)), api.OK)
	b.Crash(0)
	is(t, "one", a, laid(abort(1)))
	is(t, "the other", b, laid(abort(2), abort(4)))
}

// hide is a list with something behind its length.
func hide[T any](l []T, behind T) []T {
	out := append(slices.Clone(l), behind, behind, behind)
	return out[:len(l)]
}

func hideFacts(l []api.Fact) []api.Fact {
	l = slices.Clone(l)
	for i := range l {
		l[i].Key = hide(l[i].Key, -1)
	}
	return hide(l, fact(-1, -1))
}

// hidden is a record all of whose lists have something wrong behind their lengths.
func hidden(r api.Rec) api.Rec {
	r.Nodes, r.Facts = hide(r.Nodes, -1), hideFacts(r.Facts)
	r.Map.L = hide(r.Map.L, api.Span{From: -1})
	r.Entries = slices.Clone(r.Entries)
	for i := range r.Entries {
		r.Entries[i].Facts = hideFacts(r.Entries[i].Facts)
	}
	r.Entries = hide(r.Entries, api.Entry{Facts: []api.Fact{fact(-1, -1)}})
	return r
}

// behind is what lies behind the lengths of a record's lists.
func behind(r api.Rec) []any {
	out := []any{r.Nodes[len(r.Nodes):cap(r.Nodes)], r.Facts[len(r.Facts):cap(r.Facts)], r.Map.L[len(r.Map.L):cap(r.Map.L)], r.Entries[len(r.Entries):cap(r.Entries)]}
	lists := [][]api.Fact{r.Facts}
	for _, e := range r.Entries {
		lists = append(lists, e.Facts)
	}
	for _, l := range lists {
		out = append(out, l[len(l):cap(l)])
		for _, f := range l {
			out = append(out, f.Key[len(f.Key):cap(f.Key)])
		}
	}
	return out
}

// spoil writes over all of a list that can be reached, behind its length too.
func spoil[T any](l []T, with T) {
	l = l[:cap(l)]
	for i := range l {
		l[i] = with
	}
}

// spoilRec writes over all that can be reached from a record.
func spoilRec(r api.Rec) {
	lists := [][]api.Fact{r.Facts}
	for _, e := range r.Entries {
		lists = append(lists, e.Facts)
	}
	for _, l := range lists {
		for _, f := range l {
			spoil(f.Key, 77)
		}
		spoil(l, fact(77, 77))
	}
	spoil(r.Nodes, 77)
	spoil(r.Map.L, api.Span{From: 77, Node: 77})
	spoil(r.Entries, api.Entry{At: 77})
}

func TestWhatIsHandedInStays(t *testing.T) {
	for _, room := range []int{0, 20, 1 << 20} {
		for name, lay := range lays() {
			for _, r := range append(ordinary(), append(unsound(), sized(60000), sized(60001))...) {
				given := hidden(r)
				was := hidden(r)
				d := disk.New(room)
				lay(&Log{d}, given)
				if !reflect.DeepEqual(given, was) || !reflect.DeepEqual(behind(given), behind(was)) {
					t.Errorf("%s of kind %d: what was handed in is changed", name, r.Kind)
				}
			}
		}
	}
}

// What lies behind a list's length is not laid.
func TestWhatLiesBehindIsNotLaid(t *testing.T) {
	for name, lay := range lays() {
		for _, r := range ordinary() {
			d := disk.New(1000)
			asked(t, name, lay(&Log{d}, hidden(r)), api.OK)
			is(t, name, d, laid(r))
		}
	}
}

// A log keeps none of a record's memory.
func TestALogKeepsNothingThatIsHandedIn(t *testing.T) {
	for name, lay := range lays() {
		d := disk.New(1000)
		l := opened(t, "new", d)
		for _, r := range ordinary() {
			given := plain(r)
			asked(t, name, lay(l, given), api.OK)
			spoilRec(given)
		}
		opened(t, name, d, ordinary()...)
	}
}

// What comes out shares no memory with the disk, with what another call told, or with another record of the same answer.
func TestWhatComesOutIsNewMemory(t *testing.T) {
	all := append(ordinary(), ordinary()...)
	d := holding(t, 1000, laid(all...), nil)
	_, first, _ := Open(d)
	_, second, _ := Open(d)
	for i := range first {
		spoilRec(first[i])
		if !same(first[i+1:], all[i+1:]) {
			t.Fatalf("records behind %d went with it", i)
		}
	}
	spoil(first, abort(77))
	if !same(second, all) {
		t.Errorf("what another call told went with it: %s", short(second))
	}
	is(t, "the disk", d, laid(all...))
	opened(t, "again", d, all...)
}

// What came out stays as it was, whatever is done with the log then.
func TestWhatCameOutStays(t *testing.T) {
	d := holding(t, 1000, laid(ordinary()...), nil)
	l, told, e := Open(d)
	asked(t, "Open", e, api.OK)
	asked(t, "Force", l.Force(abort(1)), api.OK)
	asked(t, "disk.Cut", d.Cut(0), api.OK)
	for id := range uint32(50) {
		asked(t, "Lazy", l.Lazy(abort(id)), api.OK)
	}
	if !same(told, ordinary()) {
		t.Errorf("what came out is changed: %s", short(told))
	}
	if b := told[:cap(told)]; !same(b[len(told):], make([]api.Rec, len(b)-len(told))) {
		t.Error("something is handed out behind the length")
	}
}

// open, lazy and force are the chapter's words, on a disk of their own.
func open(d *disk.Disk) (bool, []api.Rec, api.Errno) {
	l, n := read(d.Read())
	if n < len(d.Read()) {
		if e := d.Cut(n); e != api.OK {
			return false, nil, e
		}
	}
	if e := d.Sync(); e != api.OK {
		return false, nil, e
	}
	return true, l, api.OK
}

func lazy(d *disk.Disk, r api.Rec) api.Errno {
	b, e := code.Encode(r)
	if e != api.OK {
		return e
	}
	return d.Append(wrapped(b))
}

func force(d *disk.Disk, r api.Rec) api.Errno {
	began := len(d.Read())
	if e := lazy(d, r); e != api.OK {
		return e
	}
	e := d.Sync()
	if e != api.OK {
		d.Cut(began)
	}
	return e
}

// both is a log on its disk, and a disk on which the chapter's words are done; each step holds one against the other.
type both struct {
	t       *testing.T
	l       *Log
	d, want *disk.Disk
	done    []string
}

func pair(t *testing.T, room int) *both {
	t.Helper()
	p := &both{t: t, d: disk.New(room), want: disk.New(room)}
	p.open()
	return p
}

func (p *both) hold(name string, got, want api.Errno) {
	p.t.Helper()
	p.done = append(p.done, name)
	calls := strings.Join(p.done[max(0, len(p.done)-12):], ", ")
	asked(p.t, calls, got, want)
	is(p.t, calls, p.d, p.want.Read())
	if p.d.Halted() != p.want.Halted() {
		p.t.Errorf("%s: Halted: %v", calls, p.d.Halted())
	}
}

// open goes on with the log that is opened, or, if there is none, with the one there was.
func (p *both) open() {
	p.t.Helper()
	l, got, e := Open(p.d)
	ok, want, f := open(p.want)
	p.hold("Open", e, f)
	if (l != nil) != ok || !same(got, want) {
		p.t.Errorf("%v: Open: %v, %s, want %v, %s", p.done, l != nil, short(got), ok, short(want))
	}
	if l != nil {
		p.l = l
	}
}

func (p *both) lazy(r api.Rec) {
	p.t.Helper()
	p.hold("Lazy", p.l.Lazy(r), lazy(p.want, r))
}

func (p *both) force(r api.Rec) {
	p.t.Helper()
	p.hold("Force", p.l.Force(r), force(p.want, r))
}

func (p *both) crash(keep int) {
	p.t.Helper()
	p.d.Crash(keep)
	p.want.Crash(keep)
	p.hold("Crash "+fmt.Sprint(keep), 0, 0)
}

func (p *both) halt(n int) {
	p.t.Helper()
	p.d.Halt(n)
	p.want.Halt(n)
	p.hold("Halt "+fmt.Sprint(n), 0, 0)
}

func (p *both) append(b []byte) {
	p.t.Helper()
	p.hold("Append", p.d.Append(b), p.want.Append(b))
}

func (p *both) cut(n int) {
	p.t.Helper()
	p.hold("Cut "+fmt.Sprint(n), p.d.Cut(n), p.want.Cut(n))
}

// kinds is how many steps there are.
const kinds = 16

// step is one of few steps, by a number from 0 on, below kinds.
func (p *both) step(i int) {
	p.t.Helper()
	switch {
	case i == 0:
		p.open()
	case i == 1:
		p.lazy(abort(uint32(len(p.done))))
	case i == 2:
		p.force(abort(uint32(len(p.done))))
	case i == 3:
		p.lazy(ordinary()[1])
	case i == 4:
		p.force(abort(math.MaxUint32))
	case i == 5:
		p.force(api.Rec{})
	case i < 9:
		p.halt(i - 6)
	case i < 12:
		p.crash([]int{-1, 13, 1000}[i-9])
	case i == 12:
		p.crash(0)
	case i == 13:
		p.append(raw("0000"))
	case i == 14:
		p.append(wrapped(nil))
	default:
		p.cut(13)
	}
}

// Each row of four steps, on a disk of little room with some on it, and what then lasts.
func TestEachRowOfFewSteps(t *testing.T) {
	for row := range kinds * kinds * kinds * kinds {
		p := pair(t, 60)
		p.force(abort(1))
		p.lazy(abort(2))
		for n, i := row, 0; i < 4; n, i = n/kinds, i+1 {
			p.step(n % kinds)
		}
		p.crash(row % 5 * 6)
		p.open()
		if t.Failed() {
			t.Fatal("see above")
		}
	}
}

// draw is some record; now and then one that is refused.
func draw(s *rand.Rand) api.Rec {
	switch s.Intn(12) {
	case 0:
		return api.Rec{Kind: uint8(8 * s.Intn(2)), ID: s.Uint32()}
	case 1, 2, 3:
		return ordinary()[s.Intn(7)]
	case 4:
		return api.Rec{Kind: api.RecPrepare, ID: s.Uint32(), Nodes: []int{s.Intn(6)}, Facts: facts(s.Intn(9), s.Intn(5))}
	}
	return abort(s.Uint32())
}

// play does steps that are drawn, on disks of any room.
func play(t *testing.T, s *rand.Rand, steps int) {
	p := pair(t, s.Intn(2000))
	for range steps {
		switch s.Intn(12) {
		case 0, 1, 2:
			p.lazy(draw(s))
		case 3, 4, 5:
			p.force(draw(s))
		case 6:
			p.open()
		case 7:
			p.crash(s.Intn(200) - 3)
		case 8:
			p.halt(s.Intn(9) - 3)
		case 9:
			p.append(bytesOf(s.Intn(9), s.Int63()))
		case 10:
			p.cut(len(p.want.Read()) - s.Intn(30))
		default:
			p.step(s.Intn(kinds))
		}
	}
}

func TestManySteps(t *testing.T) {
	for seed := range 200 {
		play(t, rand.New(rand.NewSource(int64(seed))), 200)
		if t.Failed() {
			t.Fatalf("seed %d", seed)
		}
	}
}

func TestLogsSideBySide(t *testing.T) {
	var all sync.WaitGroup
	for i := range 8 {
		all.Go(func() { play(t, rand.New(rand.NewSource(int64(1000+i))), 200) })
	}
	all.Wait()
}

// Very many records: a log may fill its disk.
func TestALogThatFillsItsDisk(t *testing.T) {
	d := disk.New(1 << 20)
	l := opened(t, "new", d)
	var all []api.Rec
	for id := range uint32(1<<20) / 12 {
		asked(t, "room for 12 bytes", l.Lazy(abort(id)), api.OK)
		all = append(all, abort(id))
	}
	asked(t, "full", l.Lazy(abort(0)), api.ErrFull)
	opened(t, "full", d, all...)
	d.Crash(0)
	opened(t, "full, crashed", d, all...)
}

// No bytes make Open panic, and whatever it tells it tells again.
func TestAnyBytes(t *testing.T) {
	s := rand.New(rand.NewSource(11))
	for range 2000 {
		p := pair(t, 1<<12)
		all := ordinary()
		b := laid(all[s.Intn(len(all))], all[s.Intn(len(all))], all[s.Intn(len(all))])
		for range s.Intn(4) {
			b[s.Intn(len(b))] ^= byte(s.Intn(256))
		}
		p.append(b[:s.Intn(len(b)+1)])
		p.append(bytesOf(s.Intn(30), s.Int63()))
		p.open()
		p.open()
		p.crash(0)
		p.open()
	}
}

func FuzzOpen(f *testing.F) {
	f.Add(laid(ordinary()...), -1)
	f.Add(slices.Concat(laid(abort(5)), wrapped(nil), laid(abort(6))), 1)
	f.Add(slices.Concat(laid(abort(5)), wrapped(raw("03 00000005 00"))), 0)
	f.Add(laid(abort(5), ordinary()[0])[:30], 2)
	f.Fuzz(func(t *testing.T, b []byte, halt int) {
		p := pair(t, 1<<20)
		p.append(b)
		p.halt(halt % 4)
		p.open()
		p.lazy(abort(1))
		p.force(abort(2))
		p.crash(halt % 40)
		p.open()
		p.force(abort(3))
		p.crash(0)
		p.open()
	})
}
