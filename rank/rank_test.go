package rank

import (
	"math"
	"slices"
	"testing"

	"stratum/api"
)

const (
	least    = math.MinInt64
	greatest = math.MaxInt64
)

var (
	inf     = math.Inf(1)
	negZero = math.Copysign(0, -1)
)

// nans are NaN of other bits: quiet and signalling, of either sign, with the least and the greatest payload.
var nans = []float64{
	math.NaN(),
	math.Float64frombits(0x7FF0000000000001),
	math.Float64frombits(0x7FF8000000000000),
	math.Float64frombits(0x7FFFFFFFFFFFFFFF),
	math.Float64frombits(0xFFF0000000000001),
	math.Float64frombits(0xFFF8000000000000),
	math.Float64frombits(0xFFFFFFFFFFFFFFFF),
}

// rising are numbers, each above the one ahead of it.
var rising = []float64{
	-inf, -math.MaxFloat64, -9223372036854775808, -1e10, -2, math.Nextafter(-1, -2), -1, math.Nextafter(-1, 0), -0.5,
	-0x1p-1022, -math.SmallestNonzeroFloat64, negZero, 0, math.SmallestNonzeroFloat64, 0x1p-1022,
	0.5, math.Nextafter(1, 0), 1, math.Nextafter(1, 2), 2, 1e10, 9223372036854775808, math.MaxFloat64, inf,
}

func bits(f float64) uint64 { return math.Float64bits(f) }

func TestMean(t *testing.T) {
	for _, c := range []struct {
		name string
		c    api.Cell
		want float64
	}{
		{"two", api.Cell{N: 2, Sum: 3, Min: 1, Max: 2}, 1.5},
		{"one", api.Cell{N: 1, Sum: -7, Min: -7, Max: -7}, -7},
		{"a third", api.Cell{N: 3, Sum: 1, Min: 0, Max: 1}, 1.0 / 3},
		{"below nought", api.Cell{N: 4, Sum: -10, Min: -9, Max: 3}, -2.5},
		{"nought", api.Cell{N: 4, Sum: 0, Min: -9, Max: 9}, 0},
		{"the other fields don't count", api.Cell{N: 2, Sum: 8, Min: 100, Max: -100}, 4},
		{"no numbers, Sum above", api.Cell{Sum: 1}, inf},
		{"no numbers, Sum below", api.Cell{Sum: -1}, -inf},
		{"no numbers, greatest Sum", api.Cell{Sum: greatest}, inf},
		{"no numbers, least Sum", api.Cell{Sum: least}, -inf},
		{"N below nought", api.Cell{N: -2, Sum: 3}, -1.5},
		{"both below nought", api.Cell{N: -2, Sum: -3}, 1.5},
		{"nought by N below nought", api.Cell{N: -2}, negZero},
		{"least by least", api.Cell{N: least, Sum: least}, 1},
		{"least by one", api.Cell{N: 1, Sum: least}, -0x1p63},
		{"least by -1", api.Cell{N: -1, Sum: least}, 0x1p63},
		{"greatest Sum is rounded up", api.Cell{N: 1, Sum: greatest}, 0x1p63},
		{"greatest N is rounded up", api.Cell{N: greatest, Sum: 1}, 0x1p-63},
		{"both are rounded", api.Cell{N: greatest, Sum: greatest - 1}, 1},
		{"Sum rounded to even, down", api.Cell{N: 1, Sum: 1<<53 + 1}, 1 << 53},
		{"Sum rounded to even, up", api.Cell{N: 1, Sum: 1<<53 + 3}, 1<<53 + 4},
		{"N rounded to even, down", api.Cell{N: 1<<53 + 1, Sum: 1 << 53}, 1},
		{"Sum is rounded ahead of dividing", api.Cell{N: 3, Sum: 3<<53 + 3}, 1<<53 + 2},
	} {
		if got := Mean(c.c); bits(got) != bits(c.want) {
			t.Errorf("%s: Mean(%+v) = %v (%x), want %v (%x)", c.name, c.c, got, bits(got), c.want, bits(c.want))
		}
	}
}

func TestMeanOfNothing(t *testing.T) {
	for _, c := range []api.Cell{{}, {Min: 1, Max: 2}} {
		if got := Mean(c); !math.IsNaN(got) {
			t.Errorf("Mean(%+v) = %v, want NaN", c, got)
		}
	}
}

func TestCmp(t *testing.T) {
	for i, a := range rising {
		for j, b := range rising {
			want := 0
			if i < j {
				want = -1
			} else if i > j {
				want = 1
			}
			if got := Cmp(a, b); got != want {
				t.Errorf("Cmp(%v, %v) = %d, want %d", a, b, got, want)
			}
		}
	}
}

func TestCmpOfNaN(t *testing.T) {
	for _, n := range nans {
		for _, m := range nans {
			if got := Cmp(n, m); got != 0 {
				t.Errorf("Cmp of NaN %x and %x = %d, want 0", bits(n), bits(m), got)
			}
		}
		for _, f := range rising {
			if got := Cmp(n, f); got != -1 {
				t.Errorf("Cmp of NaN %x and %v = %d, want -1", bits(n), f, got)
			}
			if got := Cmp(f, n); got != 1 {
				t.Errorf("Cmp of %v and NaN %x = %d, want 1", f, bits(n), got)
			}
		}
	}
}

// What holds: any two are in one order. Floats of many bits, held against each other two ways round, and three in a row.
func TestCmpIsOneOrder(t *testing.T) {
	all := slices.Concat(nans, rising)
	x := uint64(1)
	for range 60 {
		x = x*6364136223846793005 + 1442695040888963407
		all = append(all, math.Float64frombits(x))
	}
	for _, a := range all {
		for _, b := range all {
			ab := Cmp(a, b)
			if ab != -Cmp(b, a) {
				t.Fatalf("%v and %v: %d, the other way %d", a, b, ab, Cmp(b, a))
			}
			if a < b && ab != -1 || a > b && ab != 1 {
				t.Fatalf("Cmp(%v, %v) = %d", a, b, ab)
			}
			if bits(a) == bits(b) != (ab == 0) && !(math.IsNaN(a) && math.IsNaN(b)) {
				t.Fatalf("Cmp(%v, %v) = %d, their bits %x and %x", a, b, ab, bits(a), bits(b))
			}
			for _, c := range all {
				if ab <= 0 && Cmp(b, c) <= 0 && Cmp(a, c) > 0 {
					t.Fatalf("%v, %v, %v go round", a, b, c)
				}
			}
		}
	}
}

// rows are rows of cells, each at a key that would order them otherwise.
func rows(l ...api.Cell) []api.Row {
	out := make([]api.Row, len(l))
	for i, c := range l {
		out[i] = api.Row{Key: []int{len(l) - i}, Cell: c}
	}
	return out
}

func TestOrder(t *testing.T) {
	for _, c := range []struct {
		name string
		l    []api.Row
		want []int
	}{
		{"nil", nil, nil},
		{"empty", []api.Row{}, nil},
		{"one", rows(api.Cell{N: 1, Sum: 4, Min: 4, Max: 4}), []int{0}},
		{"one of no numbers", rows(api.Cell{}), []int{0}},
		{"the chapter's example", rows(api.Cell{N: 1, Sum: 2}, api.Cell{N: 1, Sum: 1}), []int{1, 0}},
		{"by means, not sums", rows(api.Cell{N: 10, Sum: 20}, api.Cell{N: 1, Sum: 3}, api.Cell{N: 100, Sum: 100}), []int{2, 0, 1}},
		{"one mean of other cells", rows(api.Cell{N: 4, Sum: 8}, api.Cell{N: 1, Sum: 2}, api.Cell{N: 2, Sum: 4}), []int{0, 1, 2}},
		{"one mean among others", rows(api.Cell{N: 1, Sum: 5}, api.Cell{N: 2, Sum: 2}, api.Cell{N: 2, Sum: 10}, api.Cell{N: 1, Sum: 1}), []int{1, 3, 0, 2}},
		{"one mean by rounding", rows(api.Cell{N: 1, Sum: 1<<53 + 1}, api.Cell{N: 1, Sum: 1 << 53}, api.Cell{N: 1, Sum: 1<<53 - 1}), []int{2, 0, 1}},
		{"one mean at the end", rows(api.Cell{N: 1, Sum: greatest}, api.Cell{N: 1, Sum: greatest - 1}), []int{0, 1}},
		{"the ends", rows(api.Cell{N: 1, Sum: greatest}, api.Cell{N: 1}, api.Cell{N: 1, Sum: least}), []int{2, 1, 0}},
		{"no numbers", rows(api.Cell{Sum: 1}, api.Cell{N: 1, Sum: greatest}, api.Cell{N: 1, Sum: least}, api.Cell{Sum: -1}, api.Cell{}), []int{4, 3, 2, 1, 0}},
		{"more of no numbers", rows(api.Cell{N: 1}, api.Cell{Max: 1}, api.Cell{}, api.Cell{Sum: -5}, api.Cell{Sum: -9}), []int{1, 2, 3, 4, 0}},
		{"both noughts", rows(api.Cell{N: 1}, api.Cell{N: -1}, api.Cell{N: 7}, api.Cell{N: -7}), []int{1, 3, 0, 2}},
		{"N below nought", rows(api.Cell{N: -1, Sum: -3}, api.Cell{N: -2, Sum: 8}, api.Cell{N: 1, Sum: 1}), []int{1, 2, 0}},
	} {
		if got := Order(c.l); !slices.Equal(got, c.want) {
			t.Errorf("%s: Order = %v, want %v", c.name, got, c.want)
		}
	}
}

// Many rows of few means: a sort that is not stable shows from some dozen rows on.
func TestOrderIsStable(t *testing.T) {
	var l []api.Row
	for i := range 1000 {
		n := int64(i%5 + 1)
		l = append(l, api.Row{Cell: api.Cell{N: n, Sum: n * int64(i*7%4)}})
	}
	got := Order(l)
	seen := slices.Sorted(slices.Values(got))
	for i, p := range seen {
		if p != i {
			t.Fatalf("place %d is told as %d", i, p)
		}
	}
	if len(seen) != len(l) {
		t.Fatalf("%d places of %d rows", len(seen), len(l))
	}
	for i, p := range got[1:] {
		q := got[i]
		a, b := Mean(l[q].Cell), Mean(l[p].Cell)
		if a > b || a == b && q > p {
			t.Fatalf("row %d of mean %v is ahead of row %d of mean %v", q, a, p, b)
		}
	}
}

func TestOrderLeavesItsRowsAlone(t *testing.T) {
	whole := rows(api.Cell{N: 1, Sum: 2}, api.Cell{N: 1, Sum: 1}, api.Cell{}, api.Cell{N: 1, Sum: -9})
	kept := rows(api.Cell{N: 1, Sum: 2}, api.Cell{N: 1, Sum: 1}, api.Cell{}, api.Cell{N: 1, Sum: -9})
	first := Order(whole[:2])
	if !slices.Equal(first, []int{1, 0}) {
		t.Errorf("Order of a front = %v: what lies behind its length was read", first)
	}
	for i, r := range whole {
		if r.Cell != kept[i].Cell || !slices.Equal(r.Key, kept[i].Key) {
			t.Errorf("Order changed row %d: %+v, was %+v", i, r, kept[i])
		}
	}
	second := Order(whole[:2])
	first[0] = 99
	if !slices.Equal(second, []int{1, 0}) {
		t.Errorf("two answers share memory: %v", second)
	}
}

// T1 and T7: rows of any cells, sound or not, have one order, whichever way they are handed in.
func TestOrderOfAnyCells(t *testing.T) {
	var l []api.Row
	few := []int64{least, least + 1, -1<<53 - 1, -1, 0, 1, 3, 1<<53 + 1, greatest - 1, greatest}
	for _, n := range few {
		for _, s := range few {
			l = append(l, api.Row{Cell: api.Cell{N: n, Sum: s, Min: s, Max: n}})
		}
	}
	back := slices.Clone(l)
	slices.Reverse(back)
	there, turned := Order(l), Order(back)
	if len(there) != len(l) || len(turned) != len(l) {
		t.Fatalf("%d and %d places of %d rows", len(there), len(turned), len(l))
	}
	for i := range there {
		a, b := Mean(l[there[i]].Cell), Mean(back[turned[i]].Cell)
		if bits(a) != bits(b) && !(math.IsNaN(a) && math.IsNaN(b)) {
			t.Fatalf("at %d mean %v, the other way %v", i, a, b)
		}
	}
}
