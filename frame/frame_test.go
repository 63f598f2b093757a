package frame

import (
	"bytes"
	"encoding/binary"
	"encoding/hex"
	"hash/adler32"
	"math/rand"
	"slices"
	"strings"
	"testing"

	"stratum/api"
)

// raw is bytes written out, in as many pieces as one likes.
func raw(pieces ...string) []byte {
	b, err := hex.DecodeString(strings.ReplaceAll(strings.Join(pieces, ""), " ", ""))
	if err != nil {
		panic(err)
	}
	return b
}

// bytesOf is n bytes of some kind, drawn from a source of a fixed seed.
func bytesOf(n int, seed int64) []byte {
	b := make([]byte, n)
	rand.New(rand.NewSource(seed)).Read(b)
	return b
}

// saying is bytes with a head that says so many, and the sum of both: a frame, where the head is right.
func saying(n int, b []byte) []byte {
	out := append([]byte{byte(n >> 16), byte(n >> 8), byte(n)}, b...)
	return binary.BigEndian.AppendUint32(out, adler32.Checksum(out))
}

// wrapped is a frame by the chapter's words, of any length.
func wrapped(b []byte) []byte { return saying(len(b), b) }

// row is frames, one behind the other.
func row(l ...[]byte) []byte {
	var out []byte
	for _, b := range l {
		out = append(out, wrapped(b)...)
	}
	return out
}

// read is Scan by the chapter's words.
func read(b []byte) ([][]byte, int) {
	var l [][]byte
	n := 0
	for len(b)-n >= 7 {
		size := int(b[n])*65536 + int(b[n+1])*256 + int(b[n+2])
		end := n + 3 + size
		if size > 60000 || end+4 > len(b) || binary.BigEndian.Uint32(b[end:]) != adler32.Checksum(b[n:end]) {
			break
		}
		l = append(l, slices.Clone(b[n+3:end]))
		n = end + 4
	}
	return l, n
}

func equal(a, b [][]byte) bool { return slices.EqualFunc(a, b, bytes.Equal) }

// copyOf shares no memory with what it is a copy of.
func copyOf(l [][]byte) [][]byte {
	var out [][]byte
	for _, b := range l {
		out = append(out, bytes.Clone(b))
	}
	return out
}

// check holds Scan of bytes against what is wanted: these, and so many bytes.
func check(t *testing.T, name string, b []byte, want [][]byte, size int) {
	t.Helper()
	if l, n := Scan(b); !equal(l, want) || n != size {
		t.Errorf("%s: Scan: %s, %d, want %s, %d", name, short(l), n, short(want), size)
	}
}

// short tells of lists, but not of all their bytes.
func short(l [][]byte) string {
	var out []string
	for _, b := range l[:min(len(l), 20)] {
		out = append(out, hex.EncodeToString(b[:min(len(b), 20)]))
	}
	return "[" + strings.Join(out, " ") + "]"
}

// few is lists of some lengths, none among them, equal ones, and ones that look like a frame.
func few() [][]byte {
	return [][]byte{[]byte("ab"), {}, {0}, []byte("Wikipedia"), {}, {}, {0, 0, 0}, {0, 0, 0, 0, 3, 0, 1}, []byte("ab"), bytesOf(300, 1)}
}

func TestWrap(t *testing.T) {
	for _, c := range []struct {
		name    string
		b, want []byte
	}{
		{"the chapter's example", nil, raw("000000 00030001")},
		{"empty", []byte{}, raw("000000 00030001")},
		{"one byte 0", []byte{0}, raw("000001 00 00060002")},
		{"one byte 7", []byte{7}, raw("000001 07 000d0009")},
		{"one byte 255", []byte{255}, raw("000001 ff 01050101")},
		{"two bytes", []byte("ab"), raw("000002 6162 012f00c6")},
		{"two bytes, the other way round", []byte("ba"), raw("000002 6261 013000c6")},
		{"the bytes of a record", raw("03 00000005"), raw("000005 0300000005 003a000e")},
		{"a frame of nothing", raw("000000 00030001"), raw("000007 00000000030001 004c000c")},
	} {
		if got, e := Wrap(c.b); !bytes.Equal(got, c.want) || e != api.OK {
			t.Errorf("%s: Wrap: % x, %v, want % x", c.name, got, e, c.want)
		}
		check(t, c.name, c.want, [][]byte{c.b}, len(c.want))
	}
}

func TestWrapOfEachByte(t *testing.T) {
	for v := range 256 {
		b := []byte{byte(v)}
		sum := []byte{byte((6 + v) >> 8), byte(6 + v), byte((2 + v) >> 8), byte(2 + v)}
		want := slices.Concat(raw("000001"), b, sum)
		if got, e := Wrap(b); !bytes.Equal(got, want) || e != api.OK {
			t.Errorf("byte %d: Wrap: % x, %v, want % x", v, got, e, want)
		}
	}
}

func TestLengths(t *testing.T) {
	all := bytesOf(60000, 2)
	for _, n := range []int{0, 1, 2, 3, 4, 6, 7, 8, 127, 128, 255, 256, 257, 511, 512, 4095, 4096, 32767, 32768, 59999, 60000} {
		for _, b := range [][]byte{all[:n], make([]byte, n), bytes.Repeat([]byte{255}, n)} {
			got, e := Wrap(b)
			if !bytes.Equal(got, wrapped(b)) || e != api.OK || len(got) != n+7 {
				t.Errorf("%d bytes: Wrap: %d bytes, %v", n, len(got), e)
			}
			check(t, "there and back", got, [][]byte{b}, n+7)
		}
	}
	if got, _ := Wrap(all); !bytes.Equal(got[:3], raw("00ea60")) {
		t.Errorf("60000 bytes: the frame begins with % x", got[:3])
	}
}

func TestWrapOfTooMany(t *testing.T) {
	all := bytesOf(1<<24+1, 3)
	for _, n := range []int{60001, 60002, 65535, 65536, 65537, 1 << 17, 1<<24 - 1, 1 << 24, 1<<24 + 1} {
		if got, e := Wrap(all[:n]); len(got) != 0 || e != api.ErrLimit {
			t.Errorf("%d bytes: Wrap: %d bytes, %v, want ErrLimit", n, len(got), e)
		}
	}
}

// What counts is how many bytes there are, not what there is room for.
func TestWrapAsksTheLengthAlone(t *testing.T) {
	b := make([]byte, 60000, 1<<20)
	if got, e := Wrap(b); len(got) != 60007 || e != api.OK {
		t.Errorf("60000 bytes with room behind: %d bytes, %v", len(got), e)
	}
	if got, e := Wrap(b[:60001]); len(got) != 0 || e != api.ErrLimit {
		t.Errorf("60001 bytes with room behind: %d bytes, %v", len(got), e)
	}
}

func TestScanOfNothing(t *testing.T) {
	check(t, "nil", nil, nil, 0)
	check(t, "empty", []byte{}, nil, 0)
	for n := range 7 {
		check(t, "bytes 0, too few", make([]byte, n), nil, 0)
		check(t, "bytes 255, too few", bytes.Repeat([]byte{255}, n), nil, 0)
	}
}

func TestScan(t *testing.T) {
	for _, c := range []struct {
		name string
		b    []byte
		want [][]byte
		size int
	}{
		{"one", raw("000002 6162 012f00c6"), [][]byte{[]byte("ab")}, 9},
		{"one of nothing", raw("000000 00030001"), [][]byte{nil}, 7},
		{"two", raw("000000 00030001", "000002 6162 012f00c6"), [][]byte{nil, []byte("ab")}, 16},
		{"two, the other way round", raw("000002 6162 012f00c6", "000000 00030001"), [][]byte{[]byte("ab"), nil}, 16},
		{"the same twice", raw("000001 07 000d0009", "000001 07 000d0009"), [][]byte{{7}, {7}}, 16},
		{"bytes behind one", raw("000001 07 000d0009", "01 02"), [][]byte{{7}}, 8},
		{"bytes behind two", raw("000000 00030001", "000002 6162 012f00c6", "01 02"), [][]byte{nil, []byte("ab")}, 16},
		{"a byte 0 behind one", raw("000001 07 000d0009", "00"), [][]byte{{7}}, 8},
		{"a byte ahead of one", raw("00", "000001 07 000d0009"), nil, 0},
		{"no frame at all", []byte("ab, and Wikipedia"), nil, 0},
		{"many bytes 0", make([]byte, 70000), nil, 0},
		{"many bytes 255", bytes.Repeat([]byte{255}, 70000), nil, 0},
	} {
		check(t, c.name, c.b, c.want, c.size)
	}
	check(t, "many", row(few()...), few(), len(row(few()...)))
}

func TestVeryManyFrames(t *testing.T) {
	n := api.MaxDisk / 7
	check(t, "of nothing, as many as a disk holds", bytes.Repeat(wrapped(nil), n), make([][]byte, n), 7*n)
	var l [][]byte
	for i := range 20 {
		l = append(l, bytesOf(60000-i, int64(i)))
	}
	check(t, "of as many bytes as there may be", row(l...), l, 20*60007-190)
}

// What is behind a front of frames does not touch them: it's told if it is frames, and else not.
func TestWhatIsBehind(t *testing.T) {
	front := row(few()...)
	backs := [][]byte{{}, {0}, {1, 2}, make([]byte, 6), make([]byte, 7), make([]byte, 70000), raw("000000 00030002"), raw("000002 6162 012f00"), raw("ea6000"), raw("00ea60"), bytes.Repeat([]byte{255}, 100)}
	for n := range 300 {
		backs = append(backs, bytesOf(n, int64(n)))
	}
	for _, back := range backs {
		check(t, "bytes that are no frame", slices.Concat(front, back), few(), len(front))
		more := slices.Concat(front, wrapped([]byte("more")), back)
		check(t, "a frame, and bytes that are none", more, append(few(), []byte("more")), len(front)+11)
		check(t, "bytes that are no frame, alone", back, nil, 0)
	}
}

// A frame behind bytes that are none is not looked for.
func TestNothingIsLookedForBehindAFault(t *testing.T) {
	good := wrapped([]byte("ab"))
	for _, fault := range [][]byte{{0}, {1}, {255}, raw("000000 00030000"), raw("000002 6162 012f00c7"), raw("00000000"), make([]byte, 7)} {
		check(t, "fault, frame", slices.Concat(fault, good), nil, 0)
		check(t, "frame, fault, frame", slices.Concat(good, fault, good), [][]byte{[]byte("ab")}, 9)
		check(t, "fault, frames", slices.Concat(fault, row(few()...)), nil, 0)
	}
}

// checkCut holds Scan of each front of frames against those that are whole in it.
func checkCut(t *testing.T, l [][]byte, step int) {
	t.Helper()
	b := row(l...)
	whole, size := 0, 0
	for n := 0; n <= len(b); n += step {
		for whole < len(l) && size+len(l[whole])+7 <= n {
			size += len(l[whole]) + 7
			whole++
		}
		check(t, "cut", bytes.Clone(b[:n]), l[:whole], size)
		check(t, "cut, the rest is in the memory behind", b[:n], l[:whole], size)
	}
}

func TestCutAtAnyByte(t *testing.T) {
	for _, b := range few() {
		checkCut(t, [][]byte{b}, 1)
	}
	checkCut(t, few(), 1)
	checkCut(t, [][]byte{{1}, bytesOf(60000, 4)}, 997)
	long := wrapped(bytesOf(60000, 4))
	for n := len(long) - 9; n < len(long); n++ {
		check(t, "60000 bytes, cut", long[:n], nil, 0)
	}
}

// Front bytes that are left away are no more whole frames than back ones, but where a frame begins.
func TestCutAheadAtAnyByte(t *testing.T) {
	b := row([]byte("ab"), []byte("Wikipedia"), bytesOf(40, 5))
	all := [][]byte{[]byte("ab"), []byte("Wikipedia"), bytesOf(40, 5)}
	begins := map[int]int{0: 0, 9: 1, 25: 2}
	for n := range len(b) {
		if i, ok := begins[n]; ok {
			check(t, "cut where a frame begins", b[n:], all[i:], len(b)-n)
		} else {
			check(t, "cut within a frame", b[n:], nil, 0)
		}
	}
}

func TestOneByteIsAnotherOne(t *testing.T) {
	for _, held := range [][]byte{nil, {0}, {255}, []byte("ab"), []byte("Wikipedia"), bytesOf(300, 6)} {
		for _, front := range [][][]byte{nil, {[]byte("front")}, few()} {
			ahead := row(front...)
			b := slices.Concat(ahead, wrapped(held), row(few()...))
			for i := len(ahead); i < len(ahead)+len(held)+7; i++ {
				for d := 1; d < 256; d += 1 + len(held)/40 {
					b[i] += byte(d)
					check(t, "one byte is another one", b, front, len(ahead))
					b[i] -= byte(d)
				}
			}
			check(t, "as it was", b, slices.Concat(front, [][]byte{held}, few()), len(b))
		}
	}
}

func TestOneByteOfManyIsAnotherOne(t *testing.T) {
	held := bytesOf(60000, 7)
	b := slices.Concat(wrapped([]byte("front")), wrapped(held), wrapped([]byte("back")))
	places := []int{12, 13, 14, 15, 60014, 60015, 60016, 60017, 60018}
	for i := 1000; i < 60000; i += 2989 {
		places = append(places, i)
	}
	for _, i := range places {
		for _, d := range []byte{1, 128, 255} {
			b[i] += d
			check(t, "one byte is another one", b, [][]byte{[]byte("front")}, 12)
			b[i] -= d
		}
	}
	check(t, "as it was", b, [][]byte{[]byte("front"), held, []byte("back")}, len(b))
}

func TestTwoBytesChangePlaces(t *testing.T) {
	b := wrapped(bytesOf(300, 8))
	for i := 1; i < len(b); i++ {
		if b[i-1] == b[i] {
			continue
		}
		b[i-1], b[i] = b[i], b[i-1]
		check(t, "two bytes change places", b, nil, 0)
		b[i-1], b[i] = b[i], b[i-1]
	}
}

// checkNoFrame holds Scan of bytes that are no frame against nothing, at the front and behind a frame, with and without frames behind them.
func checkNoFrame(t *testing.T, name string, b []byte) {
	t.Helper()
	front, back := wrapped([]byte("front")), row(few()...)
	check(t, name, b, nil, 0)
	check(t, name+", frames behind it", slices.Concat(b, back), nil, 0)
	check(t, name+", behind a frame", slices.Concat(front, b), [][]byte{[]byte("front")}, 12)
	check(t, name+", between frames", slices.Concat(front, b, back), [][]byte{[]byte("front")}, 12)
}

// All bytes are there, and their sum is right, but Wrap makes no such frame.
func TestALengthOfMoreThanMayBe(t *testing.T) {
	all := bytesOf(1<<24-1, 9)
	for _, n := range []int{60001, 60002, 61440, 65535, 65536, 65537, 1 << 17, 1<<24 - 1} {
		checkNoFrame(t, "a length of too many bytes", wrapped(all[:n]))
	}
	front := wrapped([]byte("front"))
	check(t, "60000 bytes", slices.Concat(front, wrapped(all[:60000]), []byte{1}), [][]byte{[]byte("front"), all[:60000]}, 12+60007)
}

func TestALengthOfMoreThanThereAre(t *testing.T) {
	for _, held := range [][]byte{nil, {7}, []byte("Wikipedia"), bytesOf(300, 10)} {
		for _, n := range []int{len(held) + 1, len(held) + 4, len(held) + 5, len(held) + 8, 59999, 60000, 60001, 65535, 65536, 1<<24 - 1} {
			check(t, "a length of more than there are", saying(n, held), nil, 0)
			check(t, "a length of more than there are, behind others", slices.Concat(row(few()...), saying(n, held)), few(), len(row(few()...)))
			checkNoFrame(t, "a length of more than the sum is of", saying(n, held))
		}
	}
}

func TestALengthOfFewerThanThereAre(t *testing.T) {
	held := []byte("Wikipedia")
	for n := range len(held) {
		checkNoFrame(t, "a length of fewer than the sum is of", saying(n, held))
	}
}

// Each byte of the length counts: with one of them left out, the sum would be right.
func TestEachByteOfTheLength(t *testing.T) {
	for _, held := range [][]byte{nil, {7}, []byte("ab")} {
		for _, more := range []int{1 << 8, 1 << 9, 1 << 15, 1 << 16, 1 << 17, 1 << 23, 1<<16 + 1<<8, 255 << 16} {
			checkNoFrame(t, "a length with one byte too great", saying(len(held)+more, held))
		}
	}
}

func TestSumsInOtherWays(t *testing.T) {
	held := []byte("Wikipedia")
	good := wrapped(held)
	front := good[:12]
	sum := binary.BigEndian.Uint32(good[12:])
	lay := binary.BigEndian.AppendUint32
	for _, c := range []struct {
		name string
		b    []byte
	}{
		{"the least significant first", binary.LittleEndian.AppendUint32(bytes.Clone(front), sum)},
		{"of what is held alone", lay(bytes.Clone(front), adler32.Checksum(held))},
		{"of the length alone", lay(bytes.Clone(front), adler32.Checksum(front[:3]))},
		{"of what is held, then the length", lay(bytes.Clone(front), adler32.Checksum(slices.Concat(held, front[:3])))},
		{"none", lay(bytes.Clone(front), 0)},
		{"of nothing", lay(bytes.Clone(front), 1)},
		{"the upper half alone", lay(bytes.Clone(front), sum&0xffff0000)},
		{"the lower half alone", lay(bytes.Clone(front), sum&0xffff)},
		{"the halves the other way round", lay(bytes.Clone(front), sum<<16|sum>>16)},
		{"ahead of all", slices.Concat(good[12:], front)},
		{"behind the length", slices.Concat(front[:3], good[12:], held)},
		{"one byte less", good[:15]},
	} {
		check(t, "sum: "+c.name, c.b, nil, 0)
		check(t, "sum: "+c.name+", behind a frame", slices.Concat(good, c.b), [][]byte{held}, 16)
	}
	check(t, "as it should be", good, [][]byte{held}, 16)
	least := []byte{9, 0, 0}
	check(t, "the length's least significant byte first", binary.BigEndian.AppendUint32(slices.Concat(least, held), adler32.Checksum(slices.Concat(least, held))), nil, 0)
}

// What is wrapped may be frames: they are held as bytes, not looked for.
func TestFramesInFrames(t *testing.T) {
	b := []byte("ab")
	for depth := range 20 {
		w, e := Wrap(b)
		if e != api.OK || len(w) != 2+7*(depth+1) {
			t.Errorf("depth %d: %d bytes, %v", depth, len(w), e)
		}
		check(t, "a frame in a frame", w, [][]byte{b}, len(w))
		check(t, "a frame in a frame, twice", slices.Concat(w, w), [][]byte{b, b}, 2*len(w))
		b = w
	}
	inside := row(few()...)
	check(t, "frames in a frame", wrapped(inside), [][]byte{inside}, len(inside)+7)
	check(t, "frames in a frame that is cut", wrapped(inside)[:len(inside)+6], nil, 0)
}

// pieces is bytes of many kinds, one behind the other: frames, faults, cuts, noise.
func pieces(r *rand.Rand) []byte {
	var out []byte
	for range r.Intn(12) {
		held := make([]byte, r.Intn(20))
		r.Read(held)
		b := wrapped(held)
		switch r.Intn(12) {
		case 0:
			b[r.Intn(len(b))] += byte(r.Intn(256))
		case 1:
			b = b[:r.Intn(len(b))]
		case 2:
			b = b[r.Intn(len(b)):]
		case 3:
			b = held
		case 4:
			b = saying(r.Intn(40), held)
		}
		out = append(out, b...)
	}
	return out
}

func TestAnyBytes(t *testing.T) {
	r := rand.New(rand.NewSource(11))
	for range 30000 {
		b := pieces(r)
		want, size := read(b)
		check(t, "any bytes", b, want, size)
		check(t, "the frames of any bytes", b[:size], want, size)
		if got := row(want...); !bytes.Equal(got, b[:size]) {
			t.Errorf("any bytes: the frames are % x, want % x", b[:size], got)
		}
	}
}

// All bytes of few numbers, short: none of them may panic, none is told wrongly.
func TestAllFewBytes(t *testing.T) {
	values := []byte{0, 1, 2, 3, 4, 6}
	var walk func(b []byte)
	walk = func(b []byte) {
		want, size := read(b)
		check(t, "few bytes", b, want, size)
		if len(b) < 7 {
			for _, v := range values {
				walk(append(b, v))
			}
		}
	}
	walk(make([]byte, 0, 8))
}

// Fronts join: Scan of frames and of what is behind them is what each is by itself.
func TestFrontsJoin(t *testing.T) {
	r := rand.New(rand.NewSource(12))
	for range 3000 {
		a, b := pieces(r), pieces(r)
		first, size := Scan(a)
		second, more := Scan(b)
		check(t, "joined", slices.Concat(a[:size], b), slices.Concat(first, second), size+more)
	}
}

// Recovered twice it is the same: what a front was cut to is told again, with nothing left over.
func TestScannedTwice(t *testing.T) {
	whole := row(few()...)
	for n := range len(whole) + 1 {
		l, size := Scan(whole[:n])
		check(t, "the same bytes again", whole[:n], l, size)
		check(t, "the frames alone", whole[:size], l, size)
		check(t, "the frames, and one more", slices.Concat(whole[:size], wrapped([]byte("more"))), append(l, []byte("more")), size+11)
	}
}

func TestArgumentsStay(t *testing.T) {
	for _, b := range append(few(), nil, bytesOf(60000, 13), bytesOf(60001, 13)) {
		given := bytes.Clone(b)
		Wrap(given)
		if !bytes.Equal(given, b) {
			t.Errorf("Wrap changed %d bytes", len(b))
		}
	}
	r := rand.New(rand.NewSource(14))
	for range 1000 {
		b := pieces(r)
		given := bytes.Clone(b)
		Scan(given)
		if !bytes.Equal(given, b) {
			t.Errorf("Scan changed % x to % x", b, given)
		}
	}
}

// hidden is bytes in the middle of others: these are handed back whole, too.
func hidden(b []byte) (whole, part []byte) {
	whole = slices.Concat(bytes.Repeat([]byte{77}, 9), b, bytes.Repeat([]byte{77}, 9))
	return whole, whole[9 : 9+len(b)]
}

func TestWhatLiesBehind(t *testing.T) {
	for _, held := range few() {
		whole, part := hidden(held)
		if got, e := Wrap(part); !bytes.Equal(got, wrapped(held)) || e != api.OK {
			t.Errorf("Wrap with bytes behind: % x, %v", got, e)
		}
		if want, _ := hidden(held); !bytes.Equal(whole, want) {
			t.Errorf("Wrap wrote beside its bytes: % x", whole)
		}
		frames := row(held, held)
		whole, part = hidden(frames)
		l, n := Scan(part)
		if !equal(l, [][]byte{held, held}) || n != len(frames) {
			t.Errorf("Scan with bytes behind: % x, %d", l, n)
		}
		for _, b := range l {
			_ = append(b, 99)
		}
		if want, _ := hidden(frames); !bytes.Equal(whole, want) {
			t.Errorf("Scan wrote beside its bytes, or handed them out: % x", whole)
		}
	}
}

// spoil writes over all of a list that can be reached, behind its length too.
func spoil(b []byte) {
	b = b[:cap(b)]
	for i := range b {
		b[i] = 77
	}
}

func TestWrapIsNewMemory(t *testing.T) {
	for _, held := range append(few(), bytesOf(60000, 15)) {
		given := slices.Grow(bytes.Clone(held), 20)
		x, _ := Wrap(given)
		y, _ := Wrap(given)
		spoil(x)
		if !bytes.Equal(given, held) || !bytes.Equal(y, wrapped(held)) {
			t.Errorf("%d bytes: a frame shares memory with what it wraps, or with another one", len(held))
		}
		spoil(given)
		if !bytes.Equal(y, wrapped(held)) {
			t.Errorf("%d bytes: a frame hangs on what it wraps", len(held))
		}
	}
}

func TestScanIsNewMemory(t *testing.T) {
	want := append(few(), bytesOf(60000, 16))
	frames := row(want...)
	given := slices.Grow(bytes.Clone(frames), 20)
	x, _ := Scan(given)
	y, _ := Scan(given)
	for _, b := range x {
		spoil(b)
	}
	clear(x[:cap(x)])
	if !bytes.Equal(given, frames) || !equal(y, want) {
		t.Error("what comes out shares memory with what was handed in, or with another answer")
	}
	spoil(given)
	if !equal(y, want) {
		t.Error("what came out hangs on what was handed in")
	}
}

// No two lists of one answer share memory: each is written over in its turn, up to what it may grow to, and all others stay.
func TestListsOfOneAnswerAreApart(t *testing.T) {
	want := few()
	l, _ := Scan(row(want...))
	for i := range l {
		was := copyOf(l)
		_ = append(l[i], 77)
		spoil(l[i])
		for j := range l {
			if j != i && !bytes.Equal(l[j], was[j]) {
				t.Errorf("list %d went with %d", j, i)
			}
		}
	}
}

// The range over frames may be left at any of them; what it tells of ends where it ends.
func TestTheRangeMayBeLeft(t *testing.T) {
	b := row(few()...)
	for stop := range few() {
		var l [][]byte
		size := 0
		for held, end := range frames(b) {
			if cap(held) != len(held) {
				t.Errorf("frame %d: there is a way to the bytes behind it", len(l))
			}
			l, size = append(l, held), end
			if len(l) > stop {
				break
			}
		}
		if want := few()[:stop+1]; !equal(l, want) || size != len(row(want...)) {
			t.Errorf("left at %d: %s, %d", stop, short(l), size)
		}
	}
}

func FuzzScan(f *testing.F) {
	f.Add([]byte(nil), []byte(nil))
	f.Add(row(few()...), []byte{1, 2})
	f.Add(wrapped([]byte("ab"))[:8], wrapped(nil))
	f.Fuzz(func(t *testing.T, a, b []byte) {
		want, size := read(b)
		check(t, "any bytes", b, want, size)
		if len(a) <= api.MaxBytes {
			w, e := Wrap(a)
			if e != api.OK || !bytes.Equal(w, wrapped(a)) {
				t.Errorf("Wrap: % x, %v", w, e)
			}
			check(t, "a frame ahead of any bytes", append(w, b...), slices.Concat([][]byte{a}, want), size+len(a)+7)
		}
	})
}
