package sum

import (
	"bytes"
	"hash/adler32"
	"math/rand"
	"slices"
	"strings"
	"sync"
	"testing"
)

// counted is the sum by the chapter's words, in numbers so wide that nothing goes round ahead of the end: good for some 100 million bytes.
func counted(b []byte) uint32 {
	first, second := uint64(1), uint64(0)
	for _, c := range b {
		first += uint64(c)
		second += first
	}
	return uint32(second%65521*65536 + first%65521)
}

// bytesOf is n bytes of some kind, drawn from a source of a fixed seed.
func bytesOf(n int, seed int64) []byte {
	b := make([]byte, n)
	rand.New(rand.NewSource(seed)).Read(b)
	return b
}

// reaching is bytes that bring the first number to n, before it goes round.
func reaching(n int) []byte {
	b := bytes.Repeat([]byte{255}, (n-1)/255)
	return append(b, byte((n-1)%255))
}

// cut is bytes cut at places that rise.
func cut(b []byte, places ...int) [][]byte {
	var l [][]byte
	from := 0
	for _, p := range append(slices.Clone(places), len(b)) {
		l = append(l, b[from:p])
		from = p
	}
	return l
}

func TestSum(t *testing.T) {
	for _, c := range []struct {
		name string
		l    [][]byte
		want uint32
	}{
		{"no list at all", nil, 1},
		{"a list of no lists", [][]byte{}, 1},
		{"nil", [][]byte{nil}, 1},
		{"empty", [][]byte{{}}, 1},
		{"nil and empty", [][]byte{nil, {}, nil, {}}, 1},
		{"the chapter's example", [][]byte{[]byte("Wikipedia")}, 0x11e60398},
		{"the chapter's example in two", [][]byte{[]byte("Wiki"), []byte("pedia")}, 0x11e60398},
		{"the chapter's example, nothing between", [][]byte{nil, []byte("Wiki"), {}, nil, []byte("pedia"), {}}, 0x11e60398},
		{"one byte 0", [][]byte{{0}}, 0x00010001},
		{"one byte 1", [][]byte{{1}}, 0x00020002},
		{"one byte 127", [][]byte{{127}}, 0x00800080},
		{"one byte 128", [][]byte{{128}}, 0x00810081},
		{"one byte 255", [][]byte{{255}}, 0x01000100},
		{"two bytes", [][]byte{{1, 2}}, 0x00060004},
		{"two bytes, the other way round", [][]byte{{2, 1}}, 0x00070004},
		{"two bytes in two lists", [][]byte{{1}, {2}}, 0x00060004},
		{"two lists, the other way round", [][]byte{{2}, {1}}, 0x00070004},
		{"three bytes 0", [][]byte{{0, 0, 0}}, 0x00030001},
		{"a frame of nothing", [][]byte{{0, 0, 0}, {}}, 0x00030001},
		{"letters", [][]byte{[]byte("abcdefghijklmnopqrstuvwxyz")}, 0x90860b20},
	} {
		if got := Sum(c.l...); got != c.want {
			t.Errorf("%s: Sum = %08x, want %08x", c.name, got, c.want)
		}
	}
}

func TestSumOfNothingHandedIn(t *testing.T) {
	if got := Sum(); got != 1 {
		t.Errorf("Sum() = %08x, want 1", got)
	}
}

func TestSumOfEachByte(t *testing.T) {
	for c := range 256 {
		want := uint32(1+c)<<16 | uint32(1+c)
		if got := Sum([]byte{byte(c)}); got != want {
			t.Errorf("Sum of byte %d = %08x, want %08x", c, got, want)
		}
	}
}

// A number that comes to 65521 is 0, not 65521, and one below it stays.
func TestTheFirstNumberGoesRound(t *testing.T) {
	for _, c := range []struct {
		reached int
		want    uint32
	}{
		{65519, 65519}, {65520, 65520}, {65521, 0}, {65522, 1}, {65535, 14}, {65536, 15},
		{2*65521 - 1, 65520}, {2 * 65521, 0}, {2*65521 + 1, 1},
	} {
		b := reaching(c.reached)
		got := Sum(b)
		if got&0xffff != c.want {
			t.Errorf("first number of %d: %d, want %d", c.reached, got&0xffff, c.want)
		}
		if want := counted(b); got != want {
			t.Errorf("Sum of bytes that reach %d = %08x, want %08x", c.reached, got, want)
		}
	}
}

// The second number of bytes 0 is how many there are.
func TestTheSecondNumberGoesRound(t *testing.T) {
	for _, c := range []struct {
		n    int
		want uint32
	}{
		{65519, 65519}, {65520, 65520}, {65521, 0}, {65522, 1}, {65535, 14}, {65536, 15}, {3 * 65521, 0}, {3*65521 + 7, 7},
	} {
		if got, want := Sum(make([]byte, c.n)), c.want<<16|1; got != want {
			t.Errorf("Sum of %d bytes 0 = %08x, want %08x", c.n, got, want)
		}
	}
}

func TestSumOfBytes255(t *testing.T) {
	all := bytes.Repeat([]byte{255}, 1<<20)
	for _, n := range []int{1, 22, 23, 256, 257, 5551, 5552, 5553, 5803, 5804, 65520, 65521, 65522, 1 << 17, 380367, 380368, 380369, 1 << 20} {
		if got, want := Sum(all[:n]), counted(all[:n]); got != want {
			t.Errorf("Sum of %d bytes 255 = %08x, want %08x", n, got, want)
		}
	}
}

// One list of 1 MiB, handed in 64 times, is what the closed form of equal bytes says.
func TestSumOfVeryManyBytes(t *testing.T) {
	n := uint64(64 << 20)
	list := bytes.Repeat([]byte{255}, 1<<20)
	want := uint32((n+255*n*(n+1)/2)%65521*65536 + (1+255*n)%65521)
	if got := Sum(slices.Repeat([][]byte{list}, 64)...); got != want {
		t.Errorf("Sum of %d bytes 255 = %08x, want %08x", n, got, want)
	}
}

func TestSumIsAdler32(t *testing.T) {
	for n := range 600 {
		b := bytesOf(n, int64(n))
		if got, want := Sum(b), adler32.Checksum(b); got != want {
			t.Errorf("Sum of %d bytes = %08x, want %08x", n, got, want)
		}
	}
	for _, n := range []int{5552, 5553, 60000, 60007, 65521, 1 << 20} {
		b := bytesOf(n, int64(n))
		if got, want := Sum(b), adler32.Checksum(b); got != want || got != counted(b) {
			t.Errorf("Sum of %d bytes = %08x, want %08x", n, got, want)
		}
	}
	text := []byte(strings.Repeat("stratum: numbers in many dimensions\n", 3000))
	if got, want := Sum(text), adler32.Checksum(text); got != want {
		t.Errorf("Sum of a text = %08x, want %08x", got, want)
	}
}

// Each way to cut nine bytes: at a place, or not.
func TestEachWayToCutFewBytes(t *testing.T) {
	b := []byte("Wikipedia")
	for way := range 1 << (len(b) - 1) {
		var places []int
		for p := 1; p < len(b); p++ {
			if way>>(p-1)&1 == 1 {
				places = append(places, p)
			}
		}
		if got := Sum(cut(b, places...)...); got != 0x11e60398 {
			t.Errorf("cut at %v: Sum = %08x, want 11e60398", places, got)
		}
	}
}

func TestManyBytesCut(t *testing.T) {
	r := rand.New(rand.NewSource(8))
	for _, b := range [][]byte{bytesOf(200000, 1), bytes.Repeat([]byte{255}, 200000), make([]byte, 200000)} {
		want := counted(b)
		for range 40 {
			places := make([]int, r.Intn(300))
			for i := range places {
				places[i] = r.Intn(len(b) + 1)
			}
			slices.Sort(places)
			if got := Sum(cut(b, places...)...); got != want {
				t.Errorf("cut at %v: Sum = %08x, want %08x", places, got, want)
			}
		}
		if got := Sum(slices.Collect(slices.Chunk(b, 1))...); got != want {
			t.Errorf("byte by byte: Sum = %08x, want %08x", got, want)
		}
	}
}

func TestOneByteIsAnotherOne(t *testing.T) {
	for _, n := range []int{1, 2, 9, 300} {
		b := bytesOf(n, int64(n))
		was := Sum(b)
		for i := range b {
			for d := 1; d < 256; d++ {
				b[i] += byte(d)
				if got := Sum(b); got == was || got != counted(b) {
					t.Errorf("byte %d of %d is another one by %d: Sum = %08x, was %08x, want %08x", i, n, d, got, was, counted(b))
				}
				b[i] -= byte(d)
			}
		}
	}
}

func TestOneByteOfManyIsAnotherOne(t *testing.T) {
	b := bytesOf(60007, 3)
	was := Sum(b)
	for i := 0; i < len(b); i += 997 {
		for _, d := range []byte{1, 128, 255} {
			b[i] += d
			if got := Sum(b); got == was || got != counted(b) {
				t.Errorf("byte %d is another one by %d: Sum = %08x, was %08x, want %08x", i, d, got, was, counted(b))
			}
			b[i] -= d
		}
	}
}

func TestTwoBytesChangePlaces(t *testing.T) {
	b := bytesOf(2000, 4)
	was := Sum(b)
	for i := 1; i < len(b); i++ {
		if b[i-1] == b[i] {
			continue
		}
		b[i-1], b[i] = b[i], b[i-1]
		if got := Sum(b); got == was || got&0xffff != was&0xffff || got != counted(b) {
			t.Errorf("bytes %d and %d change places: Sum = %08x, was %08x, want %08x", i-1, i, got, was, counted(b))
		}
		b[i-1], b[i] = b[i], b[i-1]
	}
}

func TestAnyTwoBytesChangePlaces(t *testing.T) {
	for x := range 256 {
		for y := range 256 {
			if Sum([]byte{byte(x), byte(y)}) == Sum([]byte{byte(y), byte(x)}) != (x == y) {
				t.Errorf("bytes %d and %d change places: the sum doesn't tell", x, y)
			}
		}
	}
}

// A byte 0 adds the first number to the second: it is told, but where the first number is just 0.
func TestBytes0BehindOthers(t *testing.T) {
	for _, b := range [][]byte{nil, {0}, {7}, []byte("Wikipedia"), bytesOf(60000, 5), reaching(65521), reaching(65522)} {
		first := Sum(b) & 0xffff
		was := Sum(b)
		for k := 1; k <= 300; k++ {
			want := uint32((uint64(was>>16)+uint64(k)*uint64(first))%65521)<<16 | first
			if got := Sum(b, make([]byte, k)); got != want || got == was != (first == 0) {
				t.Errorf("%d bytes 0 behind %d bytes: Sum = %08x, want %08x, was %08x", k, len(b), got, want, was)
			}
		}
	}
	if got := Sum([]byte{7, 0}); got != 0x00100008 {
		t.Errorf("Sum of 7, 0 = %08x, want 00100008", got)
	}
	if got := Sum([]byte{0, 7}); got != 0x00090008 {
		t.Errorf("Sum of 0, 7 = %08x, want 00090008", got)
	}
}

// Lists with memory behind their lengths, among them one that is in another one.
func TestListsStayAsTheyWere(t *testing.T) {
	whole := bytesOf(400, 6)
	more := bytesOf(50, 7)
	l := [][]byte{whole[:100], nil, whole[50:200], {}, more[:0], whole[:100], more[10:20]}
	wasWhole, wasMore := slices.Clone(whole), slices.Clone(more)
	heads := slices.Clone(l)
	want := counted(slices.Concat(l...))
	for range 2 {
		if got := Sum(l...); got != want {
			t.Errorf("Sum = %08x, want %08x", got, want)
		}
	}
	if !bytes.Equal(whole, wasWhole) || !bytes.Equal(more, wasMore) {
		t.Error("Sum changed bytes that were handed in")
	}
	for i := range heads {
		if len(l[i]) != len(heads[i]) || cap(l[i]) != cap(heads[i]) || (l[i] == nil) != (heads[i] == nil) || len(l[i]) > 0 && &l[i][0] != &heads[i][0] {
			t.Errorf("Sum changed list %d", i)
		}
	}
}

func TestListsBehindTheLengthAreNotRead(t *testing.T) {
	l := [][]byte{{1}, {2}, {3}}
	if got, want := Sum(l[:2]...), uint32(0x00060004); got != want {
		t.Errorf("Sum of a front of lists = %08x, want %08x", got, want)
	}
	if !bytes.Equal(l[2], []byte{3}) {
		t.Errorf("Sum changed the list behind: %v", l[2])
	}
}

// No sum hangs on the calls ahead of it, nor on what goes on beside it.
func TestSumsKnowNothingOfOneAnother(t *testing.T) {
	b := bytesOf(5000, 9)
	want := counted(b)
	var all sync.WaitGroup
	for range 8 {
		all.Go(func() {
			for range 50 {
				if got := Sum(b[:1234], b[1234:]); got != want {
					t.Errorf("Sum = %08x, want %08x", got, want)
				}
			}
		})
	}
	all.Wait()
	if got := Sum(); got != 1 {
		t.Errorf("Sum() behind others = %08x, want 1", got)
	}
}

func FuzzSum(f *testing.F) {
	f.Add([]byte("Wikipedia"), 4)
	f.Add([]byte(nil), 0)
	f.Add(bytes.Repeat([]byte{255}, 700), 300)
	f.Fuzz(func(t *testing.T, b []byte, at int) {
		want := adler32.Checksum(b)
		if got := Sum(b); got != want {
			t.Errorf("Sum = %08x, want %08x", got, want)
		}
		if at < 0 || at > len(b) {
			return
		}
		if got := Sum(b[:at], b[at:]); got != want {
			t.Errorf("cut at %d: Sum = %08x, want %08x", at, got, want)
		}
	})
}
