package disk

import (
	"bytes"
	"math"
	"math/rand"
	"strings"
	"sync"
	"testing"

	"stratum/api"
)

// bytesOf is n bytes of some kind, drawn from a source of a fixed seed.
func bytesOf(n int, seed int64) []byte {
	b := make([]byte, n)
	rand.New(rand.NewSource(seed)).Read(b)
	return b
}

// told is a disk by the chapter's words: what lasts, what stands behind it, and the calls left, if they are counted.
type told struct {
	lasts, rest string
	room, left  int
	counted     bool
}

func (d *told) all() string { return d.lasts + d.rest }

func (d *told) halted() bool { return d.counted && d.left == 0 }

// use is one call fewer; false: there was none left.
func (d *told) use() bool {
	if d.halted() {
		return false
	}
	if d.counted {
		d.left--
	}
	return true
}

func (d *told) append(b string) api.Errno {
	if !d.use() || len(d.all())+len(b) > d.room {
		return api.ErrFull
	}
	d.rest += b
	return api.OK
}

func (d *told) sync() api.Errno {
	if !d.use() {
		return api.ErrFull
	}
	d.lasts, d.rest = d.all(), ""
	return api.OK
}

func (d *told) cut(n int) api.Errno {
	if !d.use() {
		return api.ErrFull
	}
	if n < 0 || n > len(d.all()) {
		return api.ErrArg
	}
	if n <= len(d.lasts) {
		d.lasts, d.rest = d.lasts[:n], ""
	} else {
		d.rest = d.rest[:n-len(d.lasts)]
	}
	return api.OK
}

func (d *told) crash(keep int) {
	if keep < 0 {
		keep = 0
	}
	if keep > len(d.rest) {
		keep = len(d.rest)
	}
	d.lasts, d.rest, d.counted = d.lasts+d.rest[:keep], "", false
}

func (d *told) halt(n int) { d.left, d.counted = n, n >= 0 }

// both is a disk, and what the chapter's words make of the same calls; each call holds one against the other.
type both struct {
	t    *testing.T
	d    *Disk
	want told
	done []string
}

func pair(t *testing.T, room int) *both {
	t.Helper()
	d := New(room)
	if d == nil {
		t.Fatalf("New(%d) is nil", room)
	}
	return &both{t: t, d: d, want: told{room: room}}
}

// hold looks at all that a disk tells of itself.
func (p *both) hold(name string, got, want api.Errno) {
	p.t.Helper()
	p.done = append(p.done, name)
	calls := strings.Join(p.done[max(0, len(p.done)-12):], ", ")
	if got != want {
		p.t.Errorf("%s: %v, want %v", calls, got, want)
	}
	if b := p.d.Read(); string(b) != p.want.all() {
		p.t.Errorf("%s: Read: %d bytes, %x, want %d, %x", calls, len(b), b[:min(len(b), 40)], len(p.want.all()), p.want.all()[:min(len(p.want.all()), 40)])
	}
	if h := p.d.Halted(); h != p.want.halted() {
		p.t.Errorf("%s: Halted: %v", calls, h)
	}
}

func (p *both) append(b string) api.Errno {
	p.t.Helper()
	e := p.d.Append([]byte(b))
	p.hold("Append", e, p.want.append(b))
	return e
}

func (p *both) sync() api.Errno {
	p.t.Helper()
	e := p.d.Sync()
	p.hold("Sync", e, p.want.sync())
	return e
}

func (p *both) cut(n int) api.Errno {
	p.t.Helper()
	e := p.d.Cut(n)
	p.hold("Cut", e, p.want.cut(n))
	return e
}

func (p *both) crash(keep int) {
	p.t.Helper()
	p.d.Crash(keep)
	p.want.crash(keep)
	p.hold("Crash", api.OK, api.OK)
}

func (p *both) halt(n int) {
	p.t.Helper()
	p.d.Halt(n)
	p.want.halt(n)
	p.hold("Halt", api.OK, api.OK)
}

// is holds what a disk has against what is wanted, written out.
func is(t *testing.T, name string, d *Disk, want string) {
	t.Helper()
	if b := d.Read(); string(b) != want {
		t.Errorf("%s: %q, want %q", name, b, want)
	}
}

// asked holds an error against the one that is wanted.
func asked(t *testing.T, name string, got, want api.Errno) {
	t.Helper()
	if got != want {
		t.Errorf("%s: %v, want %v", name, got, want)
	}
}

// disk is one with a front that lasts, and more behind it.
func disk(t *testing.T, room int, lasts, rest string) *Disk {
	t.Helper()
	d := New(room)
	if d == nil {
		t.Fatalf("New(%d) is nil", room)
	}
	asked(t, "Append", d.Append([]byte(lasts)), api.OK)
	asked(t, "Sync", d.Sync(), api.OK)
	asked(t, "Append", d.Append([]byte(rest)), api.OK)
	return d
}

func TestTheChaptersExample(t *testing.T) {
	d := New(100)
	asked(t, "Append 01 02", d.Append([]byte{1, 2}), api.OK)
	asked(t, "Sync", d.Sync(), api.OK)
	asked(t, "Append 03 04 05", d.Append([]byte{3, 4, 5}), api.OK)
	is(t, "ahead of the crash", d, "\x01\x02\x03\x04\x05")
	d.Crash(1)
	is(t, "Crash 1", d, "\x01\x02\x03")
}

func TestNew(t *testing.T) {
	for _, room := range []int{math.MinInt, math.MinInt32, -1 << 20, -2, -1, 1<<20 + 1, 1<<20 + 2, 1 << 21, math.MaxInt32, 1 << 32, math.MaxInt} {
		if New(room) != nil {
			t.Errorf("New(%d) is a disk", room)
		}
	}
	for _, room := range []int{0, 1, 2, 100, 60000, 1<<20 - 1, 1 << 20} {
		p := pair(t, room)
		p.hold("New", api.OK, api.OK)
		is(t, "a new disk", p.d, "")
		asked(t, "Cut 1 of nothing", p.cut(1), api.ErrArg)
		asked(t, "Cut -1 of nothing", p.cut(-1), api.ErrArg)
		asked(t, "Cut 0 of nothing", p.cut(0), api.OK)
		asked(t, "Sync of nothing", p.sync(), api.OK)
		asked(t, "Append of nothing", p.append(""), api.OK)
		p.crash(5)
		is(t, "nothing, crashed", p.d, "")
	}
}

// A new disk has no count: it may be called very often.
func TestANewDiskHasNoCount(t *testing.T) {
	d := New(3)
	for range 100000 {
		if d.Halted() || d.Sync() != api.OK || d.Cut(0) != api.OK || d.Append([]byte{1}) != api.OK {
			t.Fatal("a new disk is halted")
		}
	}
}

func TestRoom(t *testing.T) {
	for _, room := range []int{0, 1, 2, 7, 100, 60000, 1<<20 - 1, 1 << 20} {
		b := bytesOf(room+1, int64(room))
		d := New(room)
		asked(t, "one byte more than there is room for", d.Append(b), api.ErrFull)
		is(t, "nothing is laid", d, "")
		asked(t, "as many as there is room for", d.Append(b[:room]), api.OK)
		is(t, "all is laid", d, string(b[:room]))
		asked(t, "one more", d.Append([]byte{1}), api.ErrFull)
		asked(t, "nothing more", d.Append(nil), api.OK)
		asked(t, "nothing more, empty", d.Append([]byte{}), api.OK)
		is(t, "all is there", d, string(b[:room]))
		asked(t, "Sync", d.Sync(), api.OK)
		d.Crash(0)
		is(t, "all lasts", d, string(b[:room]))
		asked(t, "one more, behind a crash", d.Append([]byte{1}), api.ErrFull)
	}
	d := New(1 << 20)
	asked(t, "far more than there is room for", d.Append(make([]byte, 1<<24)), api.ErrFull)
	is(t, "nothing is laid", d, "")
}

// Room is what is left of it: how the bytes came in doesn't matter.
func TestRoomInPieces(t *testing.T) {
	for size := 1; size <= 9; size++ {
		p := pair(t, 100)
		piece := strings.Repeat("x", size)
		for range 100 / size {
			asked(t, "a piece that there is room for", p.append(piece), api.OK)
		}
		rest := 100 % size
		asked(t, "one byte more than there is room for", p.append(strings.Repeat("y", rest+1)), api.ErrFull)
		asked(t, "the rest", p.append(strings.Repeat("z", rest)), api.OK)
		asked(t, "a byte", p.append("y"), api.ErrFull)
		if n := len(p.d.Read()); n != 100 {
			t.Errorf("pieces of %d: %d bytes", size, n)
		}
	}
}

// What is refused for room changes nothing, neither of the bytes nor of what lasts.
func TestARefusedAppendChangesNothing(t *testing.T) {
	for _, more := range []string{"1234", "12345", strings.Repeat("1", 100)} {
		d := disk(t, 8, "abc", "de")
		asked(t, "Append", d.Append([]byte(more)), api.ErrFull)
		is(t, "behind it", d, "abcde")
		asked(t, "Append of as many as there is room for", d.Append([]byte("123")), api.OK)
		d.Crash(3)
		is(t, "crashed", d, "abcde1")
		d = disk(t, 8, "abc", "de")
		asked(t, "Append", d.Append([]byte(more)), api.ErrFull)
		d.Crash(0)
		is(t, "what lasts", d, "abc")
	}
}

func TestRoomComesBack(t *testing.T) {
	d := disk(t, 5, "abc", "de")
	asked(t, "full", d.Append([]byte("f")), api.ErrFull)
	asked(t, "Cut", d.Cut(4), api.OK)
	asked(t, "two, room for one", d.Append([]byte("fg")), api.ErrFull)
	asked(t, "one", d.Append([]byte("f")), api.OK)
	is(t, "behind a cut", d, "abcdf")
	d.Crash(0)
	asked(t, "three, room for two", d.Append([]byte("ghi")), api.ErrFull)
	asked(t, "two", d.Append([]byte("gh")), api.OK)
	is(t, "behind a crash", d, "abcgh")
}

func TestSync(t *testing.T) {
	d := disk(t, 100, "abc", "de")
	d.Crash(0)
	is(t, "what was laid behind Sync doesn't last", d, "abc")
	d = disk(t, 100, "abc", "de")
	asked(t, "Sync", d.Sync(), api.OK)
	is(t, "Sync changes nothing that is read", d, "abcde")
	asked(t, "Append", d.Append([]byte("fgh")), api.OK)
	d.Crash(0)
	is(t, "all that was there lasts", d, "abcde")
	asked(t, "Sync", d.Sync(), api.OK)
	asked(t, "Sync again", d.Sync(), api.OK)
	d.Crash(0)
	is(t, "Sync twice", d, "abcde")
	d = New(100)
	asked(t, "Append", d.Append([]byte("abc")), api.OK)
	d.Crash(0)
	is(t, "never synced", d, "")
	asked(t, "Sync of nothing", d.Sync(), api.OK)
	asked(t, "Append", d.Append([]byte("abc")), api.OK)
	d.Crash(0)
	is(t, "synced when there was nothing", d, "")
}

func TestCut(t *testing.T) {
	for n := -3; n <= 9; n++ {
		want, e, all := "abcde", api.ErrArg, "abcde"
		if n >= 0 && n <= 5 {
			want, e = all[:n], api.OK
		}
		d := disk(t, 100, "abc", "de")
		asked(t, "Cut", d.Cut(n), e)
		is(t, "Cut", d, want)
		for keep := -1; keep <= 6; keep++ {
			d := disk(t, 100, "abc", "de")
			asked(t, "Cut", d.Cut(n), e)
			d.Crash(keep)
			lasts := min(3, len(want))
			is(t, "Cut, Crash", d, want[:min(lasts+max(keep, 0), len(want))])
		}
	}
	for _, n := range []int{math.MinInt, math.MinInt32, -1 << 20, 6, 100, 101, 1 << 20, math.MaxInt32, 1 << 32, math.MaxInt} {
		d := disk(t, 100, "abc", "de")
		asked(t, "Cut far off", d.Cut(n), api.ErrArg)
		is(t, "Cut far off", d, "abcde")
		d.Crash(1)
		is(t, "Cut far off, Crash 1", d, "abcd")
	}
}

// Above how many there are is above that, not above the room, nor above how many there once were.
func TestCutOfWhatIsThere(t *testing.T) {
	d := disk(t, 5, "abc", "de")
	asked(t, "Cut 5 of 5", d.Cut(5), api.OK)
	asked(t, "Cut 2 of 5", d.Cut(2), api.OK)
	for n := 3; n <= 6; n++ {
		asked(t, "Cut of more than there are now", d.Cut(n), api.ErrArg)
		is(t, "Cut of more than there are now", d, "ab")
	}
	asked(t, "Cut 2 of 2", d.Cut(2), api.OK)
	asked(t, "Cut 0 of 2", d.Cut(0), api.OK)
	asked(t, "Cut 1 of 0", d.Cut(1), api.ErrArg)
	asked(t, "Cut 0 of 0", d.Cut(0), api.OK)
	is(t, "Cut 0", d, "")
}

// In front of what lasts: what is cut does not come back, and what is laid there then doesn't last till it is synced.
func TestCutInFrontOfWhatLasts(t *testing.T) {
	for n := range 4 {
		for keep := range 6 {
			d := disk(t, 100, "abc", "de")
			asked(t, "Cut", d.Cut(n), api.OK)
			asked(t, "Append", d.Append([]byte("12345")), api.OK)
			is(t, "Cut, Append", d, "abc"[:n]+"12345")
			d.Crash(keep)
			is(t, "Cut, Append, Crash", d, "abc"[:n]+"12345"[:keep])
		}
	}
}

// Behind what lasts: all of that does, and nothing else.
func TestCutBehindWhatLasts(t *testing.T) {
	for n := range 3 {
		for keep := range 6 {
			d := disk(t, 100, "abc", "de")
			asked(t, "Cut", d.Cut(3+n), api.OK)
			asked(t, "Append", d.Append([]byte("12345")), api.OK)
			d.Crash(keep)
			is(t, "Cut, Append, Crash", d, "abc"+("de"[:n] + "12345")[:keep])
		}
	}
}

func TestCutThenSync(t *testing.T) {
	for n := range 6 {
		d := disk(t, 100, "abc", "de")
		asked(t, "Cut", d.Cut(n), api.OK)
		asked(t, "Sync", d.Sync(), api.OK)
		asked(t, "Append", d.Append([]byte("12345")), api.OK)
		d.Crash(0)
		is(t, "what was left by the cut lasts", d, "abcde"[:n])
	}
}

// Read tells all, whether it lasts or not, and changes nothing.
func TestRead(t *testing.T) {
	d := New(100)
	is(t, "New", d, "")
	d.Append([]byte("abc"))
	is(t, "Append", d, "abc")
	d.Append([]byte("de"))
	is(t, "Append behind", d, "abcde")
	d.Sync()
	is(t, "Sync", d, "abcde")
	d.Append([]byte("fgh"))
	is(t, "Append behind what lasts", d, "abcdefgh")
	d.Cut(7)
	is(t, "Cut", d, "abcdefg")
	d.Halt(0)
	is(t, "Halt", d, "abcdefg")
	d.Append([]byte("ij"))
	is(t, "Append, halted", d, "abcdefg")
	d.Crash(1)
	is(t, "Crash", d, "abcdef")
	d.Append(make([]byte, 100))
	is(t, "Append of too many", d, "abcdef")
	d.Cut(7)
	is(t, "Cut of too many", d, "abcdef")
	for range 5 {
		d.Read()
	}
	is(t, "Read", d, "abcdef")
}

func TestReadOfEachByte(t *testing.T) {
	var all []byte
	d := New(256)
	for v := range 256 {
		all = append(all, byte(v))
		asked(t, "Append", d.Append([]byte{byte(v)}), api.OK)
		is(t, "each byte as it is", d, string(all))
	}
	d.Crash(200)
	is(t, "crashed", d, string(all[:200]))
}

func TestCrash(t *testing.T) {
	for _, c := range []struct {
		keep int
		want string
	}{
		{math.MinInt, "abc"}, {-4, "abc"}, {-1, "abc"}, {0, "abc"}, {1, "abcd"}, {2, "abcde"}, {3, "abcdef"}, {4, "abcdefg"},
		{5, "abcdefg"}, {7, "abcdefg"}, {100, "abcdefg"}, {1 << 20, "abcdefg"}, {math.MaxInt - 3, "abcdefg"}, {math.MaxInt - 2, "abcdefg"}, {math.MaxInt, "abcdefg"},
	} {
		d := disk(t, 100, "abc", "defg")
		d.Crash(c.keep)
		is(t, "Crash", d, c.want)
		asked(t, "Append", d.Append([]byte("xyz")), api.OK)
		is(t, "Crash, Append", d, c.want+"xyz")
		d.Crash(2)
		is(t, "Crash, Append, Crash", d, c.want+"xy")
		for _, again := range []int{0, -1, 1, 5, math.MinInt, math.MaxInt} {
			d.Crash(again)
			is(t, "all that a crash left lasts", d, c.want+"xy")
		}
	}
}

func TestCrashOfWhatAllLasts(t *testing.T) {
	for _, keep := range []int{math.MinInt, -1, 0, 1, 2, 100, math.MaxInt} {
		d := disk(t, 100, "abc", "")
		d.Crash(keep)
		is(t, "all lasts", d, "abc")
		d = New(100)
		d.Crash(keep)
		is(t, "nothing is there", d, "")
		asked(t, "Append", d.Append([]byte("abc")), api.OK)
		d.Crash(keep)
		is(t, "nothing lasts", d, "abc"[:min(max(keep, 0), 3)])
	}
}

// What a crash left is a front of what was there, to be cut and laid behind like any other.
func TestBehindACrash(t *testing.T) {
	d := disk(t, 100, "abc", "defg")
	d.Crash(2)
	asked(t, "Cut of what is gone", d.Cut(6), api.ErrArg)
	asked(t, "Cut of all that is left", d.Cut(5), api.OK)
	asked(t, "Cut", d.Cut(4), api.OK)
	asked(t, "Append", d.Append([]byte("xy")), api.OK)
	is(t, "Crash, Cut, Append", d, "abcdxy")
	d.Crash(1)
	is(t, "again", d, "abcdx")
}

// calls is each call that is counted: one that is done, or one that is refused, whatever the disk has (of 100 bytes' room, and some there).
func calls() map[string]func(d *Disk) api.Errno {
	return map[string]func(d *Disk) api.Errno{
		"Append":             func(d *Disk) api.Errno { return d.Append([]byte("x")) },
		"Append of nothing":  func(d *Disk) api.Errno { return d.Append(nil) },
		"Append of too many": func(d *Disk) api.Errno { return d.Append(make([]byte, 101)) },
		"Sync":               func(d *Disk) api.Errno { return d.Sync() },
		"Cut":                func(d *Disk) api.Errno { return d.Cut(len(d.Read()) - 1) },
		"Cut of nothing":     func(d *Disk) api.Errno { return d.Cut(len(d.Read())) },
		"Cut below 0":        func(d *Disk) api.Errno { return d.Cut(-1) },
		"Cut of too many":    func(d *Disk) api.Errno { return d.Cut(len(d.Read()) + 1) },
	}
}

// whole is what each of calls tells when it is done, or refused for another thing than the count.
func whole(name string) api.Errno {
	switch name {
	case "Append of too many":
		return api.ErrFull
	case "Cut below 0", "Cut of too many":
		return api.ErrArg
	}
	return api.OK
}

// Each counted call uses one up, also one that is refused; with none left each tells ErrFull and does nothing.
func TestHaltCountsEachCall(t *testing.T) {
	for name, call := range calls() {
		for n := range 5 {
			d := disk(t, 100, "abcdefgh", "ijk")
			d.Halt(n)
			for i := range n {
				if d.Halted() {
					t.Errorf("%s: halted with %d of %d calls done", name, i, n)
				}
				asked(t, name, call(d), whole(name))
			}
			if !d.Halted() {
				t.Errorf("%s: not halted behind %d calls", name, n)
			}
			was := string(d.Read())
			for other, call := range calls() {
				asked(t, other+", none left", call(d), api.ErrFull)
				is(t, other+", none left", d, was)
				if !d.Halted() {
					t.Errorf("%s, none left: not halted any more", other)
				}
			}
		}
	}
}

// Each order of three counted calls, behind a halt of two: two are done, the third is not.
func TestHaltCountsAllCallsTogether(t *testing.T) {
	for a, first := range calls() {
		for b, second := range calls() {
			for c, third := range calls() {
				d := disk(t, 100, "abcdefgh", "ijk")
				d.Halt(2)
				asked(t, a, first(d), whole(a))
				asked(t, b, second(d), whole(b))
				was := string(d.Read())
				asked(t, c+", none left", third(d), api.ErrFull)
				is(t, c+", none left", d, was)
			}
		}
	}
}

// With none left ErrFull comes first, whatever else might be told.
func TestErrFullComesFirst(t *testing.T) {
	d := disk(t, 100, "abc", "de")
	d.Halt(0)
	for _, n := range []int{math.MinInt, -1, 6, 101, math.MaxInt} {
		asked(t, "Cut of what may not be", d.Cut(n), api.ErrFull)
	}
	for n := range 6 {
		asked(t, "Cut of what may be", d.Cut(n), api.ErrFull)
	}
	asked(t, "Append of nothing", d.Append(nil), api.ErrFull)
	asked(t, "Append of what there is no room for", d.Append(make([]byte, 200)), api.ErrFull)
	is(t, "nothing is changed", d, "abcde")
	d.Halt(-1)
	asked(t, "Cut of what may not be, not halted", d.Cut(-1), api.ErrArg)
}

func TestASyncThatIsHaltedMakesNothingLast(t *testing.T) {
	d := disk(t, 100, "abc", "de")
	d.Halt(0)
	asked(t, "Sync", d.Sync(), api.ErrFull)
	d.Crash(0)
	is(t, "Sync of a halted disk", d, "abc")
	d = disk(t, 100, "abc", "de")
	d.Halt(1)
	asked(t, "Sync", d.Sync(), api.OK)
	d.Crash(0)
	is(t, "Sync, the last call", d, "abcde")
}

// Read, Crash, Halt and Halted use up none.
func TestWhatUsesUpNone(t *testing.T) {
	d := disk(t, 100, "abc", "de")
	d.Halt(2)
	for range 10 {
		d.Read()
		if d.Halted() {
			t.Error("halted ahead of any call")
		}
	}
	asked(t, "the first of two", d.Append([]byte("f")), api.OK)
	for range 10 {
		is(t, "between", d, "abcdef")
		if d.Halted() {
			t.Error("halted behind one of two")
		}
	}
	asked(t, "the second of two", d.Sync(), api.OK)
	for range 10 {
		is(t, "behind", d, "abcdef")
		if !d.Halted() {
			t.Error("not halted behind two of two")
		}
	}
	for range 10 {
		d.Halt(1)
	}
	asked(t, "a new count", d.Append([]byte("g")), api.OK)
	asked(t, "of one", d.Append([]byte("h")), api.ErrFull)
}

// A halt of any number is the count from then on, whatever was left.
func TestHaltAgain(t *testing.T) {
	for _, was := range []int{math.MinInt, -1, 0, 1, 2, 5, math.MaxInt} {
		for used := range 3 {
			for n := range 4 {
				p := pair(t, 100)
				p.append("abc")
				p.halt(was)
				for range used {
					p.sync()
				}
				p.halt(n)
				for i := range n + 2 {
					want := api.OK
					if i >= n {
						want = api.ErrFull
					}
					asked(t, "Halt again", p.append("d"), want)
				}
			}
		}
	}
}

// A number below 0 is no count, which a crash leaves, too, whatever was left ahead of it.
func TestNoCount(t *testing.T) {
	ends := map[string]func(d *Disk){
		"Halt -1":       func(d *Disk) { d.Halt(-1) },
		"Halt -2":       func(d *Disk) { d.Halt(-2) },
		"Halt of least": func(d *Disk) { d.Halt(math.MinInt) },
		"Crash 0":       func(d *Disk) { d.Crash(0) },
		"Crash 100":     func(d *Disk) { d.Crash(100) },
		"Crash -1":      func(d *Disk) { d.Crash(-1) },
	}
	for name, end := range ends {
		for _, n := range []int{math.MinInt, -1, 0, 1, 2, 1000, math.MaxInt} {
			d := disk(t, 1<<20, "abc", "")
			d.Halt(n)
			end(d)
			for range 2000 {
				if d.Halted() || d.Append([]byte("d")) != api.OK {
					t.Fatalf("Halt %d, %s: there is a count", n, name)
				}
			}
		}
	}
}

func TestAVeryGreatCount(t *testing.T) {
	for _, n := range []int{1000, math.MaxInt32, 1 << 32, math.MaxInt - 1, math.MaxInt} {
		d := New(10)
		d.Halt(n)
		for range 1000 {
			if d.Halted() || d.Sync() != api.OK {
				t.Fatalf("Halt %d: halted", n)
			}
		}
		if d.Halted() != (n == 1000) {
			t.Errorf("Halt %d, 1000 calls: Halted %v", n, d.Halted())
		}
	}
}

// A halted disk keeps what it has, and what lasts of it, till it crashes.
func TestCrashOfAHaltedDisk(t *testing.T) {
	for keep := range 5 {
		d := disk(t, 100, "abc", "de")
		d.Halt(1)
		asked(t, "the last call", d.Append([]byte("f")), api.OK)
		asked(t, "Append", d.Append([]byte("g")), api.ErrFull)
		asked(t, "Sync", d.Sync(), api.ErrFull)
		asked(t, "Cut", d.Cut(0), api.ErrFull)
		is(t, "halted", d, "abcdef")
		d.Crash(keep)
		if d.Halted() {
			t.Error("halted behind a crash")
		}
		is(t, "crashed", d, "abc"+"def"[:min(keep, 3)])
		asked(t, "Append", d.Append([]byte("xy")), api.OK)
		asked(t, "Sync", d.Sync(), api.OK)
		d.Crash(0)
		is(t, "goes on", d, "abc"+"def"[:min(keep, 3)]+"xy")
	}
}

// spoil writes over all of a list's memory, also behind its length.
func spoil(b []byte) {
	b = b[:cap(b)]
	for i := range b {
		b[i] = 0xee
	}
}

func TestWhatComesOutIsNewMemory(t *testing.T) {
	d := disk(t, 100, "abc", "de")
	first, second := d.Read(), d.Read()
	_ = append(first, "xyz"...)
	spoil(first)
	is(t, "what came out is written over", d, "abcde")
	if string(second) != "abcde" {
		t.Errorf("another one that came out went with it: %q", second)
	}
	asked(t, "Append", d.Append([]byte("fgh")), api.OK)
	is(t, "what came out had room behind", d, "abcdefgh")
	d.Crash(1)
	is(t, "what lasts", d, "abcd")
}

// What came out stays as it was, whatever is done with the disk then.
func TestWhatCameOutStays(t *testing.T) {
	d := disk(t, 100, "abc", "de")
	out := d.Read()
	asked(t, "Cut", d.Cut(1), api.OK)
	asked(t, "Append", d.Append([]byte("123456789")), api.OK)
	if string(out) != "abcde" {
		t.Errorf("behind Cut and Append: %q", out)
	}
	out = d.Read()
	d.Crash(2)
	asked(t, "Append", d.Append([]byte("xyz")), api.OK)
	if string(out) != "a123456789" {
		t.Errorf("behind Crash and Append: %q", out)
	}
}

// Memory of what is cut, or crashed, is not handed out behind what is read.
func TestNothingIsHandedOutBehindTheLength(t *testing.T) {
	for _, n := range []int{0, 1, 5, 99} {
		d := disk(t, 100, strings.Repeat("a", 100), "")
		asked(t, "Cut", d.Cut(n), api.OK)
		for i, c := range [][]byte{d.Read(), d.Read()} {
			if b := c[:cap(c)]; bytes.ContainsRune(b[n:], 'a') {
				t.Errorf("%d: what was cut stands behind what is read", i)
			}
		}
		d = disk(t, 100, strings.Repeat("b", n), strings.Repeat("a", 100-n))
		d.Crash(0)
		if b := d.Read(); bytes.ContainsRune(b[:cap(b)], 'a') {
			t.Error("what was lost stands behind what is read")
		}
	}
}

func TestWhatIsHandedInStays(t *testing.T) {
	for _, room := range []int{0, 3, 5, 100} {
		memory := []byte("abcdefgh")
		b := memory[2:5]
		d := New(room)
		e := d.Append(b)
		d.Append(b)
		d.Sync()
		d.Cut(1)
		d.Append([]byte("12345"))
		d.Crash(1)
		if string(memory) != "abcdefgh" || len(b) != 3 {
			t.Errorf("room %d: %v: what was handed in is changed: %q, %q", room, e, memory, b)
		}
	}
}

// A disk keeps none of the memory that is handed in, neither with room nor without any behind the length.
func TestADiskKeepsNothingThatIsHandedIn(t *testing.T) {
	for _, b := range [][]byte{append(make([]byte, 0, 100), "abc"...), []byte("abc"), []byte("abc")[:3:3], []byte("abcdef")[:3]} {
		d := New(100)
		asked(t, "Append", d.Append(b), api.OK)
		spoil(b)
		is(t, "what was handed in is written over", d, "abc")
		asked(t, "Append", d.Append([]byte("de")), api.OK)
		is(t, "and more laid behind", d, "abcde")
		if bytes.Contains(b[:cap(b)], []byte("de")) {
			t.Error("what is laid behind stands in what was handed in")
		}
		d.Crash(4)
		is(t, "crashed", d, "abcd")
	}
}

func TestBytesBehindTheLengthAreNotLaid(t *testing.T) {
	memory := []byte("abcdefgh")
	d := New(5)
	asked(t, "Append", d.Append(memory[:3]), api.OK)
	asked(t, "Append", d.Append(memory[:0]), api.OK)
	is(t, "what lies behind the length is not laid", d, "abc")
	asked(t, "Append", d.Append(memory[:2]), api.OK)
	is(t, "nor asked room for", d, "abcab")
}

// What was read may be laid again, on the same disk or on another one.
func TestWhatWasReadMayBeLaid(t *testing.T) {
	d, o := New(100), New(100)
	d.Append([]byte("abc"))
	asked(t, "Append of what was read", d.Append(d.Read()), api.OK)
	asked(t, "Append of what was read", o.Append(d.Read()), api.OK)
	d.Cut(2)
	d.Append([]byte("xyz"))
	is(t, "one", d, "abxyz")
	is(t, "the other", o, "abcabc")
}

func TestDisksKnowNothingOfOneAnother(t *testing.T) {
	a, b := disk(t, 100, "abc", "de"), disk(t, 100, "fgh", "ij")
	a.Halt(0)
	if b.Halted() {
		t.Error("one is halted by the other")
	}
	asked(t, "Append", b.Append([]byte("k")), api.OK)
	asked(t, "Append, halted", a.Append([]byte("l")), api.ErrFull)
	b.Crash(0)
	if !a.Halted() {
		t.Error("one goes on by the other's crash")
	}
	is(t, "one", a, "abcde")
	is(t, "the other", b, "fgh")
}

func TestDisksSideBySide(t *testing.T) {
	var all sync.WaitGroup
	for i := range 8 {
		all.Go(func() { play(t, rand.New(rand.NewSource(int64(i))), 300) })
	}
	all.Wait()
}

// step is one of few calls, with few numbers, by a number from 0 on, below 18.
func (p *both) step(i int) {
	p.t.Helper()
	switch {
	case i < 4:
		p.append("abcdefgh"[i : 2*i])
	case i < 5:
		p.sync()
	case i < 11:
		p.cut(i - 6)
	case i < 15:
		p.crash(i - 12)
	default:
		p.halt(i - 16)
	}
}

// Each row of four calls, from a disk of little room, and what then lasts.
func TestEachRowOfFewCalls(t *testing.T) {
	const kinds = 18
	for row := range kinds * kinds * kinds * kinds {
		p := pair(t, 5)
		p.append("12")
		for n, i := row, 0; i < 4; n, i = n/kinds, i+1 {
			p.step(n % kinds)
		}
		p.crash(row % 3)
		if t.Failed() {
			t.Fatal("see above")
		}
	}
}

// play does calls that are drawn, on disks of any room.
func play(t *testing.T, r *rand.Rand, steps int) {
	p := pair(t, r.Intn(200))
	for range steps {
		switch r.Intn(10) {
		case 0, 1, 2, 3:
			p.append(string(bytesOf(r.Intn(40), r.Int63())))
		case 4:
			p.sync()
		case 5, 6:
			p.cut(r.Intn(len(p.want.all())+4) - 2)
		case 7:
			p.crash(r.Intn(44) - 2)
		case 8:
			p.halt(r.Intn(12) - 3)
		case 9:
			p.step(r.Intn(18))
		}
	}
}

func TestManyCalls(t *testing.T) {
	for seed := range 300 {
		play(t, rand.New(rand.NewSource(int64(seed))), 300)
		if t.Failed() {
			t.Fatalf("seed %d", seed)
		}
	}
}

// What was synced is a front of what is there behind any crash, till it is cut.
func TestWhatWasForcedIsThereBehindAnyCrash(t *testing.T) {
	r := rand.New(rand.NewSource(10))
	for range 500 {
		d, forced, lazy := New(1<<20), "", ""
		for range 60 {
			b := string(bytesOf(r.Intn(20), r.Int63()))
			asked(t, "Append", d.Append([]byte(b)), api.OK)
			lazy += b
			switch r.Intn(4) {
			case 0:
				asked(t, "Sync", d.Sync(), api.OK)
				forced, lazy = forced+lazy, ""
			case 1:
				d.Crash(r.Intn(30) - 2)
				got := string(d.Read())
				if !strings.HasPrefix(got, forced) || !strings.HasPrefix(forced+lazy, got) {
					t.Fatalf("%x is forced, %x laid behind, %x there behind a crash", forced, lazy, got)
				}
				forced, lazy = got, ""
			}
		}
	}
}

func FuzzDisk(f *testing.F) {
	f.Add(100, []byte{2, 4, 3, 13, 5, 12})
	f.Add(5, []byte{15, 2, 16, 0, 11, 1})
	f.Add(-1, []byte(nil))
	f.Add(math.MaxInt, []byte{9})
	f.Fuzz(func(t *testing.T, room int, script []byte) {
		if d := New(room); d == nil {
			if room >= 0 && room <= 1<<20 {
				t.Errorf("New(%d) is nil", room)
			}
			return
		}
		p := pair(t, room)
		for i, c := range script {
			switch n := int(int8(c)); {
			case i%7 == 3:
				p.append(string(script[:i]))
			case i%7 == 5:
				p.cut(n)
			case i%11 == 6:
				p.crash(n)
			case i%13 == 7:
				p.halt(n)
			default:
				p.step(int(c) % 18)
			}
		}
	})
}
