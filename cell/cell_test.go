package cell

import (
	"math"
	"slices"
	"testing"

	"stratum/api"
)

const (
	least    = math.MinInt64
	greatest = math.MaxInt64
)

// edges are numbers at which sums, least and greatest go wrong first.
var edges = []int64{least, least + 1, -3, -1, 0, 1, 2, greatest - 1, greatest}

func TestOf(t *testing.T) {
	for _, v := range edges {
		if got, want := Of(v), (api.Cell{N: 1, Sum: v, Min: v, Max: v}); got != want {
			t.Errorf("Of(%d) = %+v, want %+v", v, got, want)
		}
	}
}

func TestAll(t *testing.T) {
	for _, c := range []struct {
		name string
		l    []int64
		want api.Cell
	}{
		{"nil", nil, api.Cell{}},
		{"empty", []int64{}, api.Cell{}},
		{"one", []int64{-7}, api.Cell{N: 1, Sum: -7, Min: -7, Max: -7}},
		{"one nought", []int64{0}, api.Cell{N: 1}},
		{"the chapter's example", []int64{3, -1}, api.Cell{N: 2, Sum: 2, Min: -1, Max: 3}},
		{"all above nought", []int64{9, 4, 6}, api.Cell{N: 3, Sum: 19, Min: 4, Max: 9}},
		{"all below nought", []int64{-9, -4, -6}, api.Cell{N: 3, Sum: -19, Min: -9, Max: -4}},
		{"doubled", []int64{5, 5, 5}, api.Cell{N: 3, Sum: 15, Min: 5, Max: 5}},
		{"comes to nought", []int64{4, -4}, api.Cell{N: 2, Sum: 0, Min: -4, Max: 4}},
		{"round above", []int64{greatest, 1}, api.Cell{N: 2, Sum: least, Min: 1, Max: greatest}},
		{"round below", []int64{least, -1}, api.Cell{N: 2, Sum: greatest, Min: least, Max: -1}},
		{"round to nought", []int64{least, least}, api.Cell{N: 2, Sum: 0, Min: least, Max: least}},
		{"round and back", []int64{greatest, 1, -1}, api.Cell{N: 3, Sum: greatest, Min: -1, Max: greatest}},
		{"both ends", []int64{least, greatest}, api.Cell{N: 2, Sum: -1, Min: least, Max: greatest}},
	} {
		if got := All(c.l); got != c.want {
			t.Errorf("%s: All(%v) = %+v, want %+v", c.name, c.l, got, c.want)
		}
	}
}

func TestAllLeavesItsListAlone(t *testing.T) {
	whole := []int64{3, -1, 100, 200}
	kept := slices.Clone(whole)
	if got, want := All(whole[:2]), (api.Cell{N: 2, Sum: 2, Min: -1, Max: 3}); got != want {
		t.Errorf("All of a front = %+v, want %+v: what lies behind its length was read", got, want)
	}
	if !slices.Equal(whole, kept) {
		t.Errorf("All changed its list: %v, was %v", whole, kept)
	}
}

func TestMerge(t *testing.T) {
	some := api.Cell{N: 2, Sum: 2, Min: -1, Max: 3}
	high := api.Cell{N: 3, Sum: 30, Min: 9, Max: 11}
	low := api.Cell{N: 2, Sum: -30, Min: -20, Max: -10}
	for _, c := range []struct {
		name       string
		a, b, want api.Cell
	}{
		{"none and none", api.Cell{}, api.Cell{}, api.Cell{}},
		{"none and some", api.Cell{}, some, some},
		{"some and none", some, api.Cell{}, some},
		{"none and high", api.Cell{}, high, high},
		{"high and none", high, api.Cell{}, high},
		{"none and low", api.Cell{}, low, low},
		{"low and none", low, api.Cell{}, low},
		{"some and high", some, high, api.Cell{N: 5, Sum: 32, Min: -1, Max: 11}},
		{"high and low", high, low, api.Cell{N: 5, Sum: 0, Min: -20, Max: 11}},
		{"one in another", api.Cell{N: 2, Sum: 0, Min: -50, Max: 50}, some, api.Cell{N: 4, Sum: 2, Min: -50, Max: 50}},
		{"round above", Of(greatest), Of(greatest), api.Cell{N: 2, Sum: -2, Min: greatest, Max: greatest}},
		{"round below", Of(least), Of(-1), api.Cell{N: 2, Sum: greatest, Min: least, Max: -1}},
		{"both ends", Of(least), Of(greatest), api.Cell{N: 2, Sum: -1, Min: least, Max: greatest}},
		{"numbers go round", api.Cell{N: greatest, Sum: 5, Min: 1, Max: 2}, Of(0), api.Cell{N: least, Sum: 5, Min: 0, Max: 2}},
	} {
		if got := Merge(c.a, c.b); got != c.want {
			t.Errorf("%s: Merge(%+v, %+v) = %+v, want %+v", c.name, c.a, c.b, got, c.want)
		}
	}
}

// Merge goes by N alone, also where a cell is not sound.
func TestMergeOfUnsound(t *testing.T) {
	hollow := api.Cell{Sum: 5, Min: 6, Max: 7}
	other := api.Cell{Sum: 1, Min: 2, Max: 3}
	below := api.Cell{N: -2, Sum: 4, Min: 8, Max: 1}
	for _, c := range []struct {
		name       string
		a, b, want api.Cell
	}{
		{"hollow and some", hollow, Of(9), Of(9)},
		{"some and hollow", Of(9), hollow, Of(9)},
		{"hollow and other", hollow, other, other},
		{"other and hollow", other, hollow, hollow},
		{"hollow and none", hollow, api.Cell{}, api.Cell{}},
		{"none and hollow", api.Cell{}, hollow, hollow},
		{"below nought and some", below, Of(3), api.Cell{N: -1, Sum: 7, Min: 3, Max: 3}},
		{"some and below nought", Of(3), below, api.Cell{N: -1, Sum: 7, Min: 3, Max: 3}},
		{"comes to no numbers", api.Cell{N: 2, Sum: 1, Min: 0, Max: 1}, below, api.Cell{N: 0, Sum: 5, Min: 0, Max: 1}},
	} {
		if got := Merge(c.a, c.b); got != c.want {
			t.Errorf("%s: Merge(%+v, %+v) = %+v, want %+v", c.name, c.a, c.b, got, c.want)
		}
	}
}

func TestSound(t *testing.T) {
	for _, c := range []struct {
		name string
		c    api.Cell
		want bool
	}{
		{"none", api.Cell{}, true},
		{"none with Sum", api.Cell{Sum: 1}, false},
		{"none with Min", api.Cell{Min: -1}, false},
		{"none with Max", api.Cell{Max: 1}, false},
		{"none with Min and Max", api.Cell{Min: 1, Max: 1}, false},
		{"one", api.Cell{N: 1, Sum: 4, Min: 4, Max: 4}, true},
		{"one nought", api.Cell{N: 1}, true},
		{"one, least", Of(least), true},
		{"one, greatest", Of(greatest), true},
		{"one, other Sum", api.Cell{N: 1, Sum: 3, Min: 4, Max: 4}, false},
		{"one, other Min", api.Cell{N: 1, Sum: 4, Min: 3, Max: 4}, false},
		{"one, other Max", api.Cell{N: 1, Sum: 4, Min: 4, Max: 5}, false},
		{"two", api.Cell{N: 2, Sum: 2, Min: -1, Max: 3}, true},
		{"two, the same", api.Cell{N: 2, Sum: 6, Min: 3, Max: 3}, true},
		{"two, Min above Max", api.Cell{N: 2, Sum: 4, Min: 3, Max: 1}, false},
		{"two, Min above Max at the ends", api.Cell{N: 2, Sum: -1, Min: greatest, Max: least}, false},
		{"two, both ends", api.Cell{N: 2, Sum: -1, Min: least, Max: greatest}, true},
		{"two, any Sum", api.Cell{N: 2, Sum: 1000, Min: 1, Max: 2}, true},
		{"many", api.Cell{N: greatest, Sum: -5, Min: 0, Max: 0}, true},
		{"many, Min above Max", api.Cell{N: greatest, Min: 1}, false},
		{"below nought", api.Cell{N: -1}, false},
		{"below nought, the same", api.Cell{N: -1, Sum: 4, Min: 4, Max: 4}, false},
		{"far below nought", api.Cell{N: least, Sum: 1, Min: 0, Max: 1}, false},
	} {
		if got := Sound(c.c); got != c.want {
			t.Errorf("%s: Sound(%+v) = %v, want %v", c.name, c.c, got, c.want)
		}
	}
}

// lists are all lists of the edges with at most so many numbers.
func lists(most int) [][]int64 {
	out := [][]int64{nil}
	from := 0
	for range most {
		to := len(out)
		for _, l := range out[from:to] {
			for _, v := range edges {
				out = append(out, append(slices.Clone(l), v))
			}
		}
		from = to
	}
	return out
}

func TestAllIsSound(t *testing.T) {
	for _, l := range lists(3) {
		if c := All(l); !Sound(c) {
			t.Errorf("All(%v) = %+v, which is not sound", l, c)
		}
	}
}

// T1: a cell is what its numbers come to, in whichever parts they are merged.
func TestPartsComeToTheSame(t *testing.T) {
	for _, l := range lists(4) {
		want := All(l)
		for i := range len(l) + 1 {
			if got := Merge(All(l[:i]), All(l[i:])); got != want {
				t.Fatalf("%v cut at %d comes to %+v, whole to %+v", l, i, got, want)
			}
		}
	}
}

func TestOrderOfNumbersIsTheSame(t *testing.T) {
	for _, l := range lists(4) {
		sorted := slices.Sorted(slices.Values(l))
		if got, want := All(l), All(sorted); got != want {
			t.Fatalf("All(%v) = %+v, sorted %+v", l, got, want)
		}
	}
}

// What holds: two ways round, and three whichever two come first.
func TestOrderOfMergesIsTheSame(t *testing.T) {
	var cells []api.Cell
	for _, l := range lists(2) {
		cells = append(cells, All(l))
	}
	for _, a := range cells {
		for _, b := range cells {
			ab := Merge(a, b)
			if ba := Merge(b, a); ab != ba {
				t.Fatalf("%+v and %+v come to %+v, the other way to %+v", a, b, ab, ba)
			}
			for _, c := range cells {
				if left, right := Merge(ab, c), Merge(a, Merge(b, c)); left != right {
					t.Fatalf("%+v, %+v, %+v come to %+v from the left, to %+v from the right", a, b, c, left, right)
				}
			}
		}
	}
}

// T7: no cell, sound or not, makes a call panic.
func TestAnyCells(t *testing.T) {
	var cells []api.Cell
	few := []int64{least, -1, 0, 1, greatest}
	for _, n := range few {
		for _, s := range few {
			for _, lo := range few {
				for _, hi := range few {
					cells = append(cells, api.Cell{N: n, Sum: s, Min: lo, Max: hi})
				}
			}
		}
	}
	for _, a := range cells {
		for _, b := range cells {
			c := Merge(a, b)
			if Sound(a) && Sound(b) && c.N > 0 && !Sound(c) {
				t.Fatalf("sound %+v and %+v come to %+v, which is not", a, b, c)
			}
		}
	}
}
