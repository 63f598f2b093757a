package table

import (
	"fmt"
	"math"
	"math/rand"
	"reflect"
	"slices"
	"testing"

	"stratum/api"
	"stratum/cell"
	"stratum/dims"
)

const (
	least    = math.MinInt64
	greatest = math.MaxInt64
)

func key(places ...int) []int { return places }

func fact(v int64, places ...int) api.Fact { return api.Fact{Key: places, V: v} }

func row(c api.Cell, places ...int) api.Row { return api.Row{Key: places, Cell: c} }

// of is a row of numbers.
func of(places []int, numbers ...int64) api.Row { return api.Row{Key: places, Cell: cell.All(numbers)} }

func dim(size int, div ...int) api.Dim { return api.Dim{Size: size, Div: div} }

func equal(a, b []api.Row) bool {
	return slices.EqualFunc(a, b, func(x, y api.Row) bool { return slices.Equal(x.Key, y.Key) && x.Cell == y.Cell })
}

// copyOf shares no memory with what it is a copy of.
func copyOf(t []api.Row) []api.Row {
	out := slices.Clone(t)
	for i := range out {
		out[i].Key = slices.Clone(out[i].Key)
	}
	return out
}

// plain is the table OF rows, said as the chapter says it, with neither map nor sort: each row is sought a place among those that are there.
func plain(rows []api.Row) []api.Row {
	var out []api.Row
	for _, r := range rows {
		at := 0
		for at < len(out) && dims.Cmp(out[at].Key, r.Key) < 0 {
			at++
		}
		if at < len(out) && dims.Cmp(out[at].Key, r.Key) == 0 {
			out[at].Cell = cell.Merge(out[at].Cell, r.Cell)
		} else {
			out = slices.Insert(out, at, api.Row{Key: slices.Clone(r.Key), Cell: r.Cell})
		}
	}
	return out
}

func TestSound(t *testing.T) {
	one, two := cell.Of(4), cell.All([]int64{3, -1})
	for _, c := range []struct {
		name   string
		t      []api.Row
		places int
		want   bool
	}{
		{"nil", nil, 2, true},
		{"empty", []api.Row{}, 2, true},
		{"no rows of no places", nil, 0, true},
		{"no rows of fewer places than none", nil, -1, true},
		{"one row", []api.Row{row(one, 0, 0)}, 2, true},
		{"rows that rise", []api.Row{row(one, 0, 2), row(two, 1, 0)}, 2, true},
		{"rise at the last place", []api.Row{row(one, 1, 0), row(two, 1, 1), row(one, 1, 10)}, 2, true},
		{"rise at the first place, fall at the last", []api.Row{row(one, 2, 9), row(two, 10, 0)}, 2, true},
		{"one place", []api.Row{row(one, 0), row(one, 1), row(one, 2)}, 1, true},
		{"five places", []api.Row{row(one, 0, 0, 0, 0, 0), row(one, 0, 0, 0, 0, 1)}, 5, true},
		{"the greatest place", []api.Row{row(one, 0), row(one, math.MaxInt)}, 1, true},
		{"no place", []api.Row{row(one)}, 0, true},
		{"no place, empty", []api.Row{{Key: []int{}, Cell: two}}, 0, true},
		{"no place, twice", []api.Row{row(one), row(two)}, 0, false},
		{"keys that fall", []api.Row{row(one, 1, 0), row(two, 0, 2)}, 2, false},
		{"keys that fall at the last place", []api.Row{row(one, 1, 1), row(two, 1, 0)}, 2, false},
		{"keys that fall behind", []api.Row{row(one, 0), row(one, 2), row(one, 1)}, 1, false},
		{"the last falls below the first", []api.Row{row(one, 1), row(one, 2), row(one, 0)}, 1, false},
		{"a key twice", []api.Row{row(one, 1, 0), row(two, 1, 0)}, 2, false},
		{"a key twice behind", []api.Row{row(one, 0), row(one, 1), row(one, 1)}, 1, false},
		{"a key twice, not side by side", []api.Row{row(one, 0), row(one, 1), row(one, 0)}, 1, false},
		{"a place less", []api.Row{row(one, 1)}, 2, false},
		{"a place more", []api.Row{row(one, 1, 0, 0)}, 2, false},
		{"a place less behind", []api.Row{row(one, 1, 0), row(one, 2)}, 2, false},
		{"a place more behind", []api.Row{row(one, 1, 0), row(one, 1, 0, 0)}, 2, false},
		{"a place, where none is asked for", []api.Row{row(one, 0)}, 0, false},
		{"no place, where one is asked for", []api.Row{row(one)}, 1, false},
		{"fewer places than none", []api.Row{row(one)}, -1, false},
		{"the least places", []api.Row{row(one)}, math.MinInt, false},
		{"the greatest places", []api.Row{row(one, 0)}, math.MaxInt, false},
		{"first place below 0", []api.Row{row(one, -1, 0)}, 2, false},
		{"last place below 0", []api.Row{row(one, 0, -1)}, 2, false},
		{"the least place", []api.Row{row(one, math.MinInt), row(one, 0)}, 1, false},
		{"no numbers", []api.Row{row(api.Cell{}, 0)}, 1, false},
		{"no numbers behind", []api.Row{row(one, 0), row(api.Cell{}, 1)}, 1, false},
		{"no numbers, not sound", []api.Row{row(api.Cell{Sum: 1}, 0)}, 1, false},
		{"numbers below none", []api.Row{row(api.Cell{N: -1, Sum: 4, Min: 4, Max: 4}, 0)}, 1, false},
		{"Min above Max", []api.Row{row(api.Cell{N: 2, Sum: 4, Min: 3, Max: 1}, 0)}, 1, false},
		{"one number with another Sum", []api.Row{row(one, 0), row(api.Cell{N: 1, Sum: 3, Min: 4, Max: 4}, 1)}, 1, false},
		{"the ends", []api.Row{row(cell.Of(least), 0), row(cell.Of(greatest), 1)}, 1, true},
		{"a sum that went round", []api.Row{row(api.Cell{N: 2, Sum: least, Min: 1, Max: greatest}, 0)}, 1, true},
	} {
		if got := Sound(c.t, c.places); got != c.want {
			t.Errorf("%s: Sound(%v, %d) = %v", c.name, c.t, c.places, got)
		}
	}
}

func TestMake(t *testing.T) {
	for _, c := range []struct {
		name string
		l    []api.Fact
		want []api.Row
	}{
		{"nil", nil, nil},
		{"empty", []api.Fact{}, nil},
		{"the chapter's example", []api.Fact{fact(3, 1, 0), fact(4, 0, 2), fact(5, 1, 0)}, []api.Row{of(key(0, 2), 4), row(api.Cell{N: 2, Sum: 8, Min: 3, Max: 5}, 1, 0)}},
		{"one", []api.Fact{fact(-7, 3)}, []api.Row{of(key(3), -7)}},
		{"one nought", []api.Fact{fact(0, 0)}, []api.Row{row(api.Cell{N: 1}, 0)}},
		{"zero values", make([]api.Fact, 2), []api.Row{row(api.Cell{N: 2})}},
		{"one key many times", []api.Fact{fact(3, 8), fact(-1, 8), fact(0, 8), fact(3, 8)}, []api.Row{row(api.Cell{N: 4, Sum: 5, Min: -1, Max: 3}, 8)}},
		{"many keys once, falling", []api.Fact{fact(1, 10), fact(2, 9), fact(3, 2), fact(4, 0)}, []api.Row{of(key(0), 4), of(key(2), 3), of(key(9), 2), of(key(10), 1)}},
		{"comes to nought", []api.Fact{fact(4, 1), fact(-4, 1)}, []api.Row{row(api.Cell{N: 2, Min: -4, Max: 4}, 1)}},
		{"no place", []api.Fact{fact(3), fact(4)}, []api.Row{of(nil, 3, 4)}},
		{"no place, nil and empty", []api.Fact{{Key: nil, V: 3}, {Key: []int{}, V: 4}}, []api.Row{of(nil, 3, 4)}},
		{"other lengths, one the front of another", []api.Fact{fact(1, 1, 0, 0), fact(2, 1), fact(3), fact(4, 1, 0), fact(5, 1)}, []api.Row{of(nil, 3), of(key(1), 2, 5), of(key(1, 0), 4), of(key(1, 0, 0), 1)}},
		{"one digits, other places", []api.Fact{fact(1, 1, 11), fact(2, 11, 1), fact(3, 111), fact(4, 1, 1, 1), fact(5, 11, 1), fact(6, 1, 11)}, []api.Row{of(key(1, 1, 1), 4), of(key(1, 11), 1, 6), of(key(11, 1), 2, 5), of(key(111), 3)}},
		{"places below 0", []api.Fact{fact(1, 0, 1), fact(2, 0, -1), fact(3, -1, 1), fact(4, 0, -1), fact(5, -2, 9)}, []api.Row{of(key(-2, 9), 5), of(key(-1, 1), 3), of(key(0, -1), 2, 4), of(key(0, 1), 1)}},
		{"one digits, a sign between", []api.Fact{fact(1, 1, -1), fact(2, 1, 1), fact(3, -1, 1), fact(4, -11)}, []api.Row{of(key(-11), 4), of(key(-1, 1), 3), of(key(1, -1), 1), of(key(1, 1), 2)}},
		{"the least and the greatest places", []api.Fact{fact(1, math.MaxInt), fact(2, math.MinInt), fact(3, 0), fact(4, math.MaxInt), fact(5, math.MaxInt-1), fact(6, math.MinInt+1), fact(7, math.MinInt)}, []api.Row{of(key(math.MinInt), 2, 7), of(key(math.MinInt+1), 6), of(key(0), 3), of(key(math.MaxInt-1), 5), of(key(math.MaxInt), 1, 4)}},
		{"places that are one in 32 bits and in 8", []api.Fact{fact(1, 1<<32), fact(2, 0), fact(3, 256), fact(4, 1<<32)}, []api.Row{of(key(0), 2), of(key(256), 3), of(key(1<<32), 1, 4)}},
		{"the least and the greatest numbers", []api.Fact{fact(greatest, 1), fact(least, 0), fact(greatest, 2), fact(least, 2)}, []api.Row{row(api.Cell{N: 1, Sum: least, Min: least, Max: least}, 0), row(api.Cell{N: 1, Sum: greatest, Min: greatest, Max: greatest}, 1), row(api.Cell{N: 2, Sum: -1, Min: least, Max: greatest}, 2)}},
		{"sums that wrap", []api.Fact{fact(greatest, 0), fact(least, 1), fact(1, 0), fact(-1, 1)}, []api.Row{row(api.Cell{N: 2, Sum: least, Min: 1, Max: greatest}, 0), row(api.Cell{N: 2, Sum: greatest, Min: least, Max: -1}, 1)}},
	} {
		if got := Make(c.l); !equal(got, c.want) {
			t.Errorf("%s: Make(%v) = %v, want %v", c.name, c.l, got, c.want)
		}
	}
}

func TestMerge(t *testing.T) {
	three := []api.Row{of(key(0, 2), 4), of(key(1, 0), 3, 5), of(key(2, 2), 9)}
	for _, c := range []struct {
		name       string
		a, b, want []api.Row
	}{
		{"nil", nil, nil, nil},
		{"empty", []api.Row{}, []api.Row{}, nil},
		{"some and none", three, nil, three},
		{"none and some", nil, three, three},
		{"empty and some", []api.Row{}, three, three},
		{"with itself", three, three, []api.Row{of(key(0, 2), 4, 4), of(key(1, 0), 3, 5, 3, 5), of(key(2, 2), 9, 9)}},
		{"some keys in common", three, []api.Row{of(key(0, 3), 1), of(key(1, 0), -8), of(key(3, 0), 2)}, []api.Row{of(key(0, 2), 4), of(key(0, 3), 1), of(key(1, 0), 3, 5, -8), of(key(2, 2), 9), of(key(3, 0), 2)}},
		{"all behind", three[:1], three[1:], three},
		{"all ahead", three[1:], three[:1], three},
		{"side by side", []api.Row{three[0], three[2]}, three[1:2], three},
		{"rows in whatever order", []api.Row{three[2], three[0]}, []api.Row{three[1]}, three},
		{"keys that come twice in one", []api.Row{of(key(1), 1), of(key(0), 2), of(key(1), 4)}, nil, []api.Row{of(key(0), 2), of(key(1), 1, 4)}},
		{"keys that come twice in the other", nil, []api.Row{of(key(1), 1), of(key(1), 4)}, []api.Row{of(key(1), 1, 4)}},
		{"no place", []api.Row{of(nil, 1)}, []api.Row{of(key(), 2)}, []api.Row{of(nil, 1, 2)}},
		{"other lengths", []api.Row{of(key(1, 0), 1), of(nil, 2)}, []api.Row{of(key(1), 3), of(key(1, 0), 4)}, []api.Row{of(nil, 2), of(key(1), 3), of(key(1, 0), 1, 4)}},
		{"one digits, other places", []api.Row{of(key(1, 23), 1)}, []api.Row{of(key(12, 3), 2), of(key(123), 3)}, []api.Row{of(key(1, 23), 1), of(key(12, 3), 2), of(key(123), 3)}},
		{"places below 0, and the ends", []api.Row{of(key(math.MaxInt, -1), 1), of(key(math.MinInt, 0), 2)}, []api.Row{of(key(math.MaxInt, -1), 3), of(key(math.MaxInt, math.MinInt), 4)}, []api.Row{of(key(math.MinInt, 0), 2), of(key(math.MaxInt, math.MinInt), 4), of(key(math.MaxInt, -1), 1, 3)}},
		{"sums that wrap", []api.Row{of(key(0), greatest), of(key(1), least)}, []api.Row{of(key(0), 1), of(key(1), -1)}, []api.Row{row(api.Cell{N: 2, Sum: least, Min: 1, Max: greatest}, 0), row(api.Cell{N: 2, Sum: greatest, Min: least, Max: -1}, 1)}},
		{"counts that wrap", []api.Row{row(api.Cell{N: greatest, Sum: 1, Min: 0, Max: 1}, 0)}, []api.Row{of(key(0), 2)}, []api.Row{row(api.Cell{N: least, Sum: 3, Min: 0, Max: 2}, 0)}},
	} {
		if got := Merge(c.a, c.b); !equal(got, c.want) {
			t.Errorf("%s: Merge(%v, %v) = %v, want %v", c.name, c.a, c.b, got, c.want)
		}
	}
}

// Rows whose cells are of no numbers, or not sound, are put together as cell.Merge has it, in order, and none of them goes.
func TestMergeOfUnsoundCells(t *testing.T) {
	none := api.Cell{}
	hollow := api.Cell{Sum: 5, Min: 6, Max: 7}
	other := api.Cell{Sum: 1, Min: 2, Max: 3}
	below := api.Cell{N: -2, Sum: 4, Min: 8, Max: 1}
	pair := api.Cell{N: 2, Sum: 1, Min: 0, Max: 1}
	for _, c := range []struct {
		name string
		a, b []api.Cell
		want api.Cell
	}{
		{"none alone", []api.Cell{none}, nil, none},
		{"none twice", []api.Cell{none}, []api.Cell{none}, none},
		{"none and some", []api.Cell{none}, []api.Cell{pair}, pair},
		{"some and none", []api.Cell{pair}, []api.Cell{none}, pair},
		{"hollow alone", []api.Cell{hollow}, nil, hollow},
		{"hollow alone in b", nil, []api.Cell{hollow}, hollow},
		{"hollow and other", []api.Cell{hollow}, []api.Cell{other}, other},
		{"other and hollow", []api.Cell{other}, []api.Cell{hollow}, hollow},
		{"hollow and other in one list", []api.Cell{hollow, other}, nil, other},
		{"other and hollow in one list", nil, []api.Cell{other, hollow}, hollow},
		{"hollow and none", []api.Cell{hollow}, []api.Cell{none}, none},
		{"none and hollow", []api.Cell{none}, []api.Cell{hollow}, hollow},
		{"hollow and some", []api.Cell{hollow}, []api.Cell{pair}, pair},
		{"below none alone", []api.Cell{below}, nil, below},
		{"below none and some", []api.Cell{below}, []api.Cell{cell.Of(3)}, api.Cell{N: -1, Sum: 7, Min: 3, Max: 3}},
		{"comes to no numbers", []api.Cell{pair}, []api.Cell{below}, api.Cell{N: 0, Sum: 5, Min: 0, Max: 1}},
		{"comes to no numbers, then some", []api.Cell{pair, below}, []api.Cell{cell.Of(9)}, cell.Of(9)},
		{"some between", []api.Cell{pair, cell.Of(9)}, []api.Cell{below}, api.Cell{N: 1, Sum: 14, Min: 0, Max: 9}},
	} {
		lay := func(l []api.Cell, first int) []api.Row {
			var out []api.Row
			for _, x := range l {
				out = append(out, row(x, 5), of(key(first), 1))
			}
			return out
		}
		got := Merge(lay(c.a, 9), lay(c.b, 0))
		at := slices.IndexFunc(got, func(r api.Row) bool { return slices.Equal(r.Key, key(5)) })
		if at < 0 || got[at].Cell != c.want {
			t.Errorf("%s: Merge of %v and %v = %v, want %v at 5", c.name, c.a, c.b, got, c.want)
		}
	}
}

func TestRoll(t *testing.T) {
	two := []api.Dim{dim(100, 5, 20), dim(8, 2)}
	rows := []api.Row{of(key(0, 0), 1), of(key(4, 1), 2), of(key(5, 1), 4, 5), of(key(47, 7), -8), of(key(49, 6), 16), of(key(99, 0), 32)}
	for _, c := range []struct {
		name     string
		l        []api.Dim
		t        []api.Row
		from, to []int
		want     []api.Row
	}{
		{"no rows", two, nil, key(0, 0), key(1, 1), nil},
		{"no rows, empty", two, []api.Row{}, key(0, 0), key(3, 2), nil},
		{"to themselves", two, rows, key(0, 0), key(0, 0), rows},
		{"to the next", two, rows, key(0, 0), key(1, 1), []api.Row{of(key(0, 0), 1, 2), of(key(1, 0), 4, 5), of(key(9, 3), -8, 16), of(key(19, 0), 32)}},
		{"the first alone to the next", two, rows, key(0, 0), key(1, 0), []api.Row{of(key(0, 0), 1), of(key(0, 1), 2), of(key(1, 1), 4, 5), of(key(9, 6), 16), of(key(9, 7), -8), of(key(19, 0), 32)}},
		{"by two levels", two, rows, key(0, 0), key(2, 1), []api.Row{of(key(0, 0), 1, 2, 4, 5), of(key(2, 3), -8, 16), of(key(4, 0), 32)}},
		{"the first to the last", two, rows, key(0, 0), key(3, 0), []api.Row{of(key(0, 0), 1, 32), of(key(0, 1), 2, 4, 5), of(key(0, 6), 16), of(key(0, 7), -8)}},
		{"the second to the last", two, rows, key(0, 0), key(2, 2), []api.Row{of(key(0, 0), 1, 2, 4, 5), of(key(2, 0), -8, 16), of(key(4, 0), 32)}},
		{"to one row", two, rows, key(0, 0), key(3, 2), []api.Row{row(api.Cell{N: 7, Sum: 52, Min: -8, Max: 32}, 0, 0)}},
		{"from levels above", two, []api.Row{of(key(3, 0), 1), of(key(4, 1), 2), of(key(7, 1), 3)}, key(1, 1), key(2, 1), []api.Row{of(key(0, 0), 1), of(key(1, 1), 2, 3)}},
		{"from a level above to itself", two, []api.Row{of(key(3, 0), 1), of(key(4, 1), 2)}, key(1, 1), key(1, 1), []api.Row{of(key(3, 0), 1), of(key(4, 1), 2)}},
		{"from the last to itself", two, []api.Row{of(key(0, 0), 1, 2)}, key(3, 2), key(3, 2), []api.Row{of(key(0, 0), 1, 2)}},
		{"from the last to itself, of what is no member there", two, []api.Row{of(key(0, 0), 1), of(key(7, 9), 2)}, key(3, 2), key(3, 2), []api.Row{of(key(0, 0), 1), of(key(7, 9), 2)}},
		{"one dimension", []api.Dim{dim(10, 5)}, []api.Row{of(key(1), 1), of(key(4), 4), of(key(7), 7)}, key(0), key(1), []api.Row{of(key(0), 1, 4), of(key(1), 7)}},
		{"a dimension with no divisors", []api.Dim{dim(4), dim(4)}, []api.Row{of(key(0, 2), 4), of(key(1, 0), 3, 5)}, key(0, 0), key(1, 1), []api.Row{of(key(0, 0), 4, 3, 5)}},
		{"four dimensions", []api.Dim{dim(1), dim(2), dim(10000, 10, 100, 1000, 10000), dim(3, 2)}, []api.Row{of(key(0, 0, 9, 0), 1), of(key(0, 1, 8999, 1), 2), of(key(0, 1, 9998, 2), 3), of(key(0, 1, 9999, 2), 4)}, key(0, 0, 0, 0), key(1, 0, 3, 1), []api.Row{of(key(0, 0, 0, 0), 1), of(key(0, 1, 8, 0), 2), of(key(0, 1, 9, 1), 3, 4)}},
		{"keys behind the last member", two, []api.Row{of(key(100, 8), 1), of(key(104, 9), 2), of(key(math.MaxInt, math.MaxInt), 3)}, key(0, 0), key(1, 1), []api.Row{of(key(20, 4), 1, 2), of(key(math.MaxInt/5, math.MaxInt/2), 3)}},
		{"sums that wrap", []api.Dim{dim(9, 3)}, []api.Row{of(key(0), greatest), of(key(1), 1), of(key(3), least), of(key(5), -1)}, key(0), key(1), []api.Row{row(api.Cell{N: 2, Sum: least, Min: 1, Max: greatest}, 0), row(api.Cell{N: 2, Sum: greatest, Min: least, Max: -1}, 1)}},
	} {
		got, e := Roll(c.l, c.t, c.from, c.to)
		if e != api.OK || !equal(got, c.want) {
			t.Errorf("%s: Roll(%v, %v, %v, %v) = %v, %d, want %v", c.name, c.l, c.t, c.from, c.to, got, e, c.want)
		}
	}
}

// Where several errors apply, the first one that the chapter names is told, and no rows beside any.
func TestRollThatMayNotBe(t *testing.T) {
	good := []api.Dim{dim(100, 5, 20), dim(8, 2)}
	five := []api.Dim{dim(1), dim(1), dim(1), dim(1), dim(1)}
	rows := []api.Row{of(key(4, 1), 2), of(key(47, 7), -8, 3)}
	one, nought := cell.Of(4), key(0, 0)
	for _, c := range []struct {
		name     string
		l        []api.Dim
		t        []api.Row
		from, to []int
		want     api.Errno
	}{
		{"no dimension", nil, nil, nil, nil, api.ErrDims},
		{"no dimension, empty", []api.Dim{}, nil, key(), key(), api.ErrDims},
		{"no dimension, a row with no place", nil, []api.Row{row(one)}, nil, nil, api.ErrDims},
		{"five dimensions", five, nil, make([]int, 5), make([]int, 5), api.ErrDims},
		{"Size 0", []api.Dim{dim(100, 5), dim(0)}, rows, nought, nought, api.ErrDims},
		{"Size beyond", []api.Dim{dim(10001), dim(8)}, rows, nought, nought, api.ErrDims},
		{"divisors that fall", []api.Dim{dim(100, 20, 5), dim(8)}, rows, nought, nought, api.ErrDims},
		{"a divisor of 1", []api.Dim{dim(100), dim(8, 1)}, rows, nought, nought, api.ErrDims},
		{"five divisors", []api.Dim{dim(100), dim(8, 2, 4, 8, 16, 32)}, rows, nought, nought, api.ErrDims},
		{"dimensions ahead of levels", []api.Dim{dim(0), dim(8)}, rows, key(1, 0), nought, api.ErrDims},
		{"dimensions ahead of rows", []api.Dim{dim(0), dim(8)}, []api.Row{row(one, -1, 0)}, nought, nought, api.ErrDims},
		{"dimensions ahead of all", []api.Dim{dim(0), dim(8)}, []api.Row{row(one, -1)}, key(-1), nil, api.ErrDims},
		{"from below 0", good, rows, key(-1, 0), key(1, 1), api.ErrLevel},
		{"from below 0, the second", good, rows, key(0, -1), key(1, 1), api.ErrLevel},
		{"both below 0", good, rows, key(0, -1), key(0, -1), api.ErrLevel},
		{"to below 0", good, rows, nought, key(-1, 0), api.ErrLevel},
		{"to below 0, the second", good, rows, nought, key(0, -1), api.ErrLevel},
		{"the least", good, rows, key(math.MinInt, 0), key(1, 1), api.ErrLevel},
		{"to beyond the last", good, rows, nought, key(4, 0), api.ErrLevel},
		{"to beyond the last, the second", good, rows, nought, key(3, 3), api.ErrLevel},
		{"both beyond the last", good, rows, key(4, 0), key(4, 0), api.ErrLevel},
		{"from beyond the last", good, rows, key(4, 0), key(3, 0), api.ErrLevel},
		{"the greatest", good, rows, nought, key(0, math.MaxInt), api.ErrLevel},
		{"to below from", good, rows, key(1, 0), key(0, 1), api.ErrLevel},
		{"to below from, the second", good, rows, key(0, 2), key(1, 1), api.ErrLevel},
		{"from a place less", good, rows, key(0), nought, api.ErrLevel},
		{"from a place more", good, rows, key(0, 0, 0), nought, api.ErrLevel},
		{"from nothing", good, rows, nil, nought, api.ErrLevel},
		{"to a place less", good, rows, nought, key(0), api.ErrLevel},
		{"to a place more", good, rows, nought, key(0, 0, 0), api.ErrLevel},
		{"to nothing", good, rows, nought, nil, api.ErrLevel},
		{"both a place less", good, rows, key(0), key(0), api.ErrLevel},
		{"both a place more", good, rows, key(0, 0, 0), key(0, 0, 0), api.ErrLevel},
		{"levels, with no rows", good, nil, nought, key(4, 0), api.ErrLevel},
		{"levels ahead of rows", good, []api.Row{row(one, -1, 0)}, key(1, 0), nought, api.ErrLevel},
		{"levels of other places, ahead of rows", good, []api.Row{row(one, 1)}, key(0), key(0), api.ErrLevel},
		{"keys that fall", good, []api.Row{rows[1], rows[0]}, nought, key(1, 1), api.ErrArg},
		{"a key twice", good, []api.Row{rows[0], rows[0]}, nought, key(3, 2), api.ErrArg},
		{"a place less", good, []api.Row{row(one, 4)}, nought, key(1, 1), api.ErrArg},
		{"a place more", good, []api.Row{row(one, 4, 1, 0)}, nought, key(1, 1), api.ErrArg},
		{"no place", good, []api.Row{row(one)}, nought, key(1, 1), api.ErrArg},
		{"a place below 0", good, []api.Row{row(one, -1, 0)}, nought, key(1, 1), api.ErrArg},
		{"the second place below 0", good, []api.Row{rows[0], row(one, 5, -1)}, nought, key(3, 2), api.ErrArg},
		{"a cell of no numbers", good, []api.Row{rows[0], row(api.Cell{}, 5, 0)}, nought, key(1, 1), api.ErrArg},
		{"a cell that is not sound", good, []api.Row{row(api.Cell{N: 2, Min: 1}, 5, 0), rows[1]}, nought, key(1, 1), api.ErrArg},
		{"no table, to themselves", good, []api.Row{rows[1], rows[0]}, nought, nought, api.ErrArg},
	} {
		got, e := Roll(c.l, c.t, c.from, c.to)
		if e != c.want || len(got) != 0 {
			t.Errorf("%s: Roll(%v, %v, %v, %v) = %v, %d, want none, %d", c.name, c.l, c.t, c.from, c.to, got, e, c.want)
		}
	}
}

// The errors' numbers are those that the chapter lists.
func TestErrorsByNumber(t *testing.T) {
	l, rows := []api.Dim{dim(4)}, []api.Row{of(key(1), 1), of(key(0), 1)}
	_, d := Roll(nil, rows, key(0), key(0))
	_, v := Roll(l, rows, key(0), key(2))
	_, a := Roll(l, rows, key(0), key(0))
	if d != 30 || v != 40 || a != 1 {
		t.Errorf("errors %d, %d, %d, want 30, 40, 1", d, v, a)
	}
}

// somebody draws facts and rows, the same ones each time.
type somebody struct{ *rand.Rand }

func drawer() somebody { return somebody{rand.New(rand.NewSource(4))} }

func (s somebody) facts(l []api.Dim, n int) []api.Fact {
	out := make([]api.Fact, n)
	for i := range out {
		k := make([]int, len(l))
		for j, d := range l {
			k[j] = s.Intn(d.Size)
		}
		out[i] = api.Fact{Key: k, V: []int64{least, -3, 0, 1, 7, greatest}[s.Intn(6)]}
	}
	return out
}

func (s somebody) rows(n int) []api.Row {
	out := make([]api.Row, n)
	for i := range out {
		k := make([]int, s.Intn(4))
		for j := range k {
			k[j] = s.Intn(4) - 1
		}
		out[i] = api.Row{Key: k, Cell: api.Cell{N: int64(s.Intn(4) - 1), Sum: int64(s.Intn(3)), Min: int64(s.Intn(3)), Max: int64(s.Intn(3))}}
	}
	return out
}

// sampleDims are small, so that keys meet.
func sampleDims() []api.Dim { return []api.Dim{dim(24, 2, 6), dim(5), dim(10, 3)} }

// eachLevels calls do with all levels of dimensions, none below the ones from which they come.
func eachLevels(l []api.Dim, from []int, do func(to []int)) {
	var walk func(to []int)
	walk = func(to []int) {
		if len(to) == len(l) {
			do(slices.Clone(to))
			return
		}
		i := len(to)
		for k := from[i]; k < dims.Levels(l[i]); k++ {
			walk(append(slices.Clone(to), k))
		}
	}
	walk(nil)
}

func rolled(t *testing.T, l []api.Dim, rows []api.Row, from, to []int) []api.Row {
	t.Helper()
	out, e := Roll(l, rows, from, to)
	if e != api.OK || !Sound(out, len(l)) {
		t.Fatalf("Roll(%v, %v, %v, %v) = %v, %d", l, rows, from, to, out, e)
	}
	return out
}

// Whatever rows there are, in whatever order, their table is what the chapter's words make of them.
func TestTableOfAnyRows(t *testing.T) {
	s := drawer()
	for n := range 300 {
		a, b := s.rows(s.Intn(30)), s.rows(n%30)
		if got, want := Merge(a, b), plain(append(copyOf(a), b...)); !equal(got, want) {
			t.Fatalf("Merge(%v, %v) = %v, want %v", a, b, got, want)
		}
	}
}

// T1, as far as this layer bears it: in whichever parts and order facts come, the table is what they come to.
func TestPartsAndOrderAreNothing(t *testing.T) {
	s := drawer()
	l := sampleDims()
	for range 100 {
		facts := s.facts(l, s.Intn(200))
		want := Make(facts)
		if !Sound(want, len(l)) {
			t.Fatalf("Make(%v) is no table: %v", facts, want)
		}
		s.Shuffle(len(facts), func(i, j int) { facts[i], facts[j] = facts[j], facts[i] })
		if got := Make(facts); !equal(got, want) {
			t.Fatalf("Make in another order = %v, want %v", got, want)
		}
		a, b := s.Intn(len(facts)+1), s.Intn(len(facts)+1)
		a, b = min(a, b), max(a, b)
		x, y, z := Make(facts[:a]), Make(facts[a:b]), Make(facts[b:])
		if got := Merge(Merge(x, y), z); !equal(got, want) {
			t.Fatalf("the first two merged first = %v, want %v", got, want)
		}
		if got := Merge(z, Merge(y, x)); !equal(got, want) {
			t.Fatalf("the other way round = %v, want %v", got, want)
		}
	}
}

// What holds: rolled by steps, or at once, it is the same; and it is the table of the facts whose keys are rolled.
func TestRolledByStepsOrAtOnce(t *testing.T) {
	l := sampleDims()
	facts := drawer().facts(l, 60)
	nought := make([]int, len(l))
	members := Make(facts)
	eachLevels(l, nought, func(by []int) {
		step := rolled(t, l, members, nought, by)
		var raised []api.Fact
		for _, f := range facts {
			raised = append(raised, api.Fact{Key: dims.At(l, nought, by, f.Key), V: f.V})
		}
		if want := Make(raised); !equal(step, want) {
			t.Fatalf("rolled to %v = %v, want %v", by, step, want)
		}
		eachLevels(l, by, func(to []int) {
			if got, want := rolled(t, l, step, by, to), rolled(t, l, members, nought, to); !equal(got, want) {
				t.Fatalf("rolled to %v by %v = %v, want %v", to, by, got, want)
			}
		})
	})
}

// What holds: rolled ahead of merging, or behind, it is the same.
func TestRolledAheadOfMergingOrBehind(t *testing.T) {
	s := drawer()
	l := sampleDims()
	nought := make([]int, len(l))
	for range 5 {
		a, b := Make(s.facts(l, s.Intn(80))), Make(s.facts(l, s.Intn(80)))
		eachLevels(l, nought, func(to []int) {
			ahead := Merge(rolled(t, l, a, nought, to), rolled(t, l, b, nought, to))
			if behind := rolled(t, l, Merge(a, b), nought, to); !equal(ahead, behind) {
				t.Fatalf("to %v: rolled ahead of merging %v, behind %v", to, ahead, behind)
			}
		})
	}
}

func TestArgumentsStay(t *testing.T) {
	facts := func() []api.Fact { return []api.Fact{fact(3, 1, 0), fact(4, 0, 2), fact(5, 1, 0)} }
	rows := func() []api.Row { return []api.Row{of(key(0, 2), 4), of(key(1, 0), 3, 5)} }
	loose := func() []api.Row { return []api.Row{of(key(3, 2), 4), of(key(1, 0), 3, 5), of(key(3, 2), 6)} }
	sizes := func() []api.Dim { return []api.Dim{dim(4, 2), dim(4)} }
	f, a, b, l, from, to := facts(), rows(), loose(), sizes(), key(0, 0), key(1, 1)
	Sound(a, 2)
	Sound(b, 2)
	Make(f)
	Merge(a, b)
	Merge(b, a)
	Roll(l, a, from, to)
	Roll(l, b, from, to)
	if !reflect.DeepEqual(f, facts()) || !reflect.DeepEqual(a, rows()) || !reflect.DeepEqual(b, loose()) || !reflect.DeepEqual(l, sizes()) || !slices.Equal(from, key(0, 0)) || !slices.Equal(to, key(1, 1)) {
		t.Errorf("changed: %v %v %v %v %v %v", f, a, b, l, from, to)
	}
}

// spoil writes over all of some rows that can be reached, behind the keys' lengths too.
func spoil(t []api.Row) {
	for _, r := range t {
		k := r.Key[:cap(r.Key)]
		for i := range k {
			k[i] = 77
		}
	}
	t = t[:cap(t)]
	for i := range t {
		t[i] = of(key(88), 88)
	}
}

// Each answer is written over; neither what was handed in, nor another answer, nor another row of it may change by that.
func TestAnswersAreNew(t *testing.T) {
	facts := []api.Fact{fact(3, 1, 0), fact(4, 0, 2), fact(5, 1, 0)}
	a := []api.Row{of(key(0, 2), 4), of(key(1, 0), 3, 5)}
	b := []api.Row{of(key(1, 0), 1), of(key(2, 0), 2)}
	l := []api.Dim{dim(4, 2), dim(4)}
	calls := map[string]func() []api.Row{
		"Make":            func() []api.Row { return Make(facts) },
		"Merge":           func() []api.Row { return Merge(a, b) },
		"Merge with none": func() []api.Row { return Merge(a, nil) },
		"Merge of none":   func() []api.Row { return Merge(nil, a) },
		"Roll to themselves": func() []api.Row {
			out, _ := Roll(l, a, key(0, 0), key(0, 0))
			return out
		},
		"Roll": func() []api.Row {
			out, _ := Roll(l, a, key(0, 0), key(0, 1))
			return out
		},
	}
	for name, call := range calls {
		first, second := call(), call()
		want := copyOf(first)
		spoil(second)
		if !equal(first, want) {
			t.Errorf("%s: two answers share memory: %v, was %v", name, first, want)
		}
		if got := call(); !equal(got, want) {
			t.Errorf("%s: the answer shares memory with what was handed in: %v, was %v", name, got, want)
		}
		for i := range first {
			spoil(first[i : i+1 : i+1])
			want[i] = first[i]
			if !equal(first, want) {
				t.Errorf("%s: two rows share memory: %v", name, first)
			}
		}
	}
	kept := Make(facts)
	facts[0].Key[0], facts[1].Key[1] = 9, 9
	joined := Merge(a, b)
	rolled, _ := Roll(l, a, key(0, 0), key(0, 0))
	a[0].Key[0], b[1].Key[0], a[1].Cell = 9, 9, cell.Of(9)
	if !equal(kept, []api.Row{of(key(0, 2), 4), of(key(1, 0), 3, 5)}) || !equal(rolled, kept) || !equal(joined, []api.Row{of(key(0, 2), 4), of(key(1, 0), 3, 5, 1), of(key(2, 0), 2)}) {
		t.Errorf("answers changed by what was handed in: %v %v %v", kept, joined, rolled)
	}
}

// What lies behind a list's length is neither read nor written: each list here is the front of one that would answer otherwise.
func TestNothingBehindTheLengthIsTouched(t *testing.T) {
	behind := func() []api.Row { return []api.Row{of(key(0, 2), 4), of(key(1, 0), 3, 5), row(api.Cell{}, -1)} }
	whole := behind()
	if !Sound(whole[:2], 2) {
		t.Error("Sound of a front")
	}
	if got := Merge(whole[:1], whole[1:2]); !equal(got, whole[:2]) {
		t.Errorf("Merge of fronts = %v", got)
	}
	if got, e := Roll([]api.Dim{dim(4), dim(4), dim(0)}[:2], whole[:2], key(0, 0, 9)[:2], key(0, 0, -1)[:2]); e != api.OK || !equal(got, whole[:2]) {
		t.Errorf("Roll of fronts = %v, %d", got, e)
	}
	Merge(whole[:1], []api.Row{of(key(5, 5), 5)})
	if !equal(whole, behind()) {
		t.Errorf("behind the length was written: %v", whole)
	}
	long := key(1, 0, 7)
	facts := []api.Fact{{Key: long[:2], V: 3}, {Key: long[:1], V: 4}, fact(9, 9)}
	got := Make(facts[:2])
	if !equal(got, []api.Row{of(key(1), 4), of(key(1, 0), 3)}) {
		t.Errorf("Make of fronts = %v", got)
	}
	for _, r := range got {
		if slices.Contains(r.Key[:cap(r.Key)], 7) {
			t.Errorf("behind the length was handed out: %v", r.Key[:cap(r.Key)])
		}
	}
	if !slices.Equal(long, key(1, 0, 7)) {
		t.Errorf("a key was written: %v", long)
	}
}

// T7: no rows, levels or dimensions make a call panic, and Roll's answer is one of those that it may give.
func TestAnyNumbers(t *testing.T) {
	odd := []int{math.MinInt, -1, 0, 1, 2, 3, 10000, math.MaxInt}
	for _, size := range odd {
		for _, div := range odd {
			l := []api.Dim{dim(size, div)}
			for _, place := range odd {
				for _, from := range odd {
					for _, to := range odd {
						rows := []api.Row{row(api.Cell{N: int64(place), Sum: int64(place), Min: int64(place), Max: int64(place)}, place)}
						want := api.OK
						switch {
						case !dims.Sound(l):
							want = api.ErrDims
						case from < 0 || from > to || to > 2:
							want = api.ErrLevel
						case place < 1:
							want = api.ErrArg
						}
						got, e := Roll(l, rows, key(from), key(to))
						if e != want || (e == api.OK) != (len(got) == 1) {
							t.Fatalf("Roll(%v, %v, %d, %d) = %v, %d, want %d", l, rows, from, to, got, e, want)
						}
						Sound(rows, place)
					}
				}
			}
		}
	}
}

func ExampleMake() {
	for _, r := range Make([]api.Fact{{Key: []int{1, 0}, V: 3}, {Key: []int{0, 2}, V: 4}, {Key: []int{1, 0}, V: 5}}) {
		fmt.Println(r.Key, r.Cell.N, r.Cell.Sum)
	}
	// Output:
	// [0 2] 1 4
	// [1 0] 2 8
}
