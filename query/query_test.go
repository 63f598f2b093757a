package query

import (
	"fmt"
	"math"
	"math/rand"
	"reflect"
	"slices"
	"testing"

	"stratum/api"
	"stratum/cell"
	"stratum/dims"
	"stratum/table"
)

const (
	least    = math.MinInt
	greatest = math.MaxInt
)

func key(places ...int) []int { return places }

func dim(size int, div ...int) api.Dim { return api.Dim{Size: size, Div: div} }

func ask(levels, low, high []int) api.Query { return api.Query{Levels: levels, Low: low, High: high} }

func row(c api.Cell, places ...int) api.Row { return api.Row{Key: places, Cell: c} }

// of is a row of numbers.
func of(places []int, numbers ...int64) api.Row { return api.Row{Key: places, Cell: cell.All(numbers)} }

// run is rows of one number each, the members of one dimension from one on, below another.
func run(from, to int) []api.Row {
	var out []api.Row
	for v := from; v < to; v++ {
		out = append(out, of(key(v), int64(v)))
	}
	return out
}

func equal(a, b []api.Row) bool {
	return slices.EqualFunc(a, b, func(x, y api.Row) bool { return slices.Equal(x.Key, y.Key) && x.Cell == y.Cell })
}

// copyOf shares no memory with what it is a copy of.
func copyOf(t []api.Row) []api.Row {
	out := slices.Clone(t)
	for i := range out {
		out[i].Key = slices.Clone(out[i].Key)
	}
	return out
}

// allOf asks for all members, at levels.
func allOf(l []api.Dim, levels ...int) api.Query {
	q := api.Query{Levels: levels, Low: make([]int, len(l))}
	for _, d := range l {
		q.High = append(q.High, d.Size)
	}
	return q
}

// two and four are dimensions as the tests ask of them most.
func two() []api.Dim { return []api.Dim{dim(10, 5), dim(12, 2, 6)} }

func four() []api.Dim { return []api.Dim{dim(4), dim(6, 2), dim(8, 2, 4), dim(10, 3, 6, 12, 24)} }

func TestCheckOfDimensions(t *testing.T) {
	for _, c := range []struct {
		name string
		l    []api.Dim
		want api.Errno
	}{
		{"one", []api.Dim{dim(10, 5)}, api.OK},
		{"two", two(), api.OK},
		{"four", four(), api.OK},
		{"of one member", []api.Dim{dim(1)}, api.OK},
		{"of MaxSize members", []api.Dim{dim(api.MaxSize, api.MaxSize)}, api.OK},
		{"none", nil, api.ErrDims},
		{"none, empty", []api.Dim{}, api.ErrDims},
		{"five", make([]api.Dim, 5), api.ErrDims},
		{"five that each may be", []api.Dim{dim(1), dim(1), dim(1), dim(1), dim(1)}, api.ErrDims},
		{"Size 0", []api.Dim{dim(0)}, api.ErrDims},
		{"Size 0 behind", []api.Dim{dim(10), dim(0)}, api.ErrDims},
		{"Size below 0", []api.Dim{dim(-1)}, api.ErrDims},
		{"Size above MaxSize", []api.Dim{dim(api.MaxSize + 1)}, api.ErrDims},
		{"a divisor of 1", []api.Dim{dim(10, 1)}, api.ErrDims},
		{"divisors that fall", []api.Dim{dim(10, 4, 2)}, api.ErrDims},
		{"divisors that are no multiples", []api.Dim{dim(10, 2, 5)}, api.ErrDims},
		{"a divisor above MaxSize", []api.Dim{dim(10, api.MaxSize+1)}, api.ErrDims},
		{"five divisors", []api.Dim{dim(100, 2, 4, 8, 16, 32)}, api.ErrDims},
	} {
		q := allOf(c.l, make([]int, len(c.l))...)
		if got := Check(c.l, q); got != c.want {
			t.Errorf("%s: Check(%v, %v) = %v", c.name, c.l, q, got)
		}
	}
}

// Of each dimension in its turn: all levels that it has, and those just beside them.
func TestCheckOfLevelsOfEachDimension(t *testing.T) {
	l := four()
	for i, d := range l {
		for level := -2; level <= dims.Levels(d)+2; level++ {
			want := api.ErrLevel
			if level >= 0 && level < dims.Levels(d) {
				want = api.OK
			}
			q := allOf(l, 0, 0, 0, 0)
			q.Levels[i] = level
			if got := Check(l, q); got != want {
				t.Errorf("level %d of dimension %d: %v, want %v", level, i, got, want)
			}
		}
	}
	if got := Check(l, allOf(l, 1, 2, 3, 5)); got != api.OK {
		t.Errorf("the last level of all: %v", got)
	}
}

func TestCheckOfLevels(t *testing.T) {
	for _, c := range []struct {
		name   string
		levels []int
		want   api.Errno
	}{
		{"level 0", key(0, 0), api.OK},
		{"the last levels", key(2, 3), api.OK},
		{"a level in the first place that only the second has", key(3, 2), api.ErrLevel},
		{"the least level", key(least, 0), api.ErrLevel},
		{"the least level behind", key(0, least), api.ErrLevel},
		{"the greatest level", key(greatest, 0), api.ErrLevel},
		{"the greatest level behind", key(0, greatest), api.ErrLevel},
		{"none", nil, api.ErrLevel},
		{"none, empty", []int{}, api.ErrLevel},
		{"a place less", key(0), api.ErrLevel},
		{"a place more", key(0, 0, 0), api.ErrLevel},
	} {
		if got := Check(two(), allOf(two(), c.levels...)); got != c.want {
			t.Errorf("%s: %v", c.name, got)
		}
	}
	if got := Check(two()[:1], allOf(two()[:1], 0, 0)); got != api.ErrLevel {
		t.Errorf("two levels of one dimension: %v", got)
	}
}

func TestCheckOfBoxes(t *testing.T) {
	for _, c := range []struct {
		name      string
		low, high []int
		want      api.Errno
	}{
		{"ordinary", key(2, 3), key(5, 9), api.OK},
		{"all members", key(0, 0), key(10, 12), api.OK},
		{"one member", key(4, 7), key(5, 8), api.OK},
		{"the last member", key(9, 11), key(10, 12), api.OK},
		{"nothing in it", key(4, 7), key(4, 7), api.OK},
		{"nothing in it, at the beginning", key(0, 0), key(0, 0), api.OK},
		{"nothing in it, at the end", key(10, 12), key(10, 12), api.OK},
		{"nothing in one place", key(0, 7), key(10, 7), api.OK},
		{"low below 0", key(-1, 0), key(10, 12), api.ErrQuery},
		{"low below 0 behind", key(0, -1), key(10, 12), api.ErrQuery},
		{"low above high", key(5, 0), key(4, 12), api.ErrQuery},
		{"low above high behind", key(0, 5), key(10, 4), api.ErrQuery},
		{"high above Size", key(0, 0), key(11, 12), api.ErrQuery},
		{"high above Size behind", key(0, 0), key(10, 13), api.ErrQuery},
		{"high above its own Size, below the other's", key(0, 0), key(12, 10), api.ErrQuery},
		{"the ends of all", key(least, least), key(greatest, greatest), api.ErrQuery},
		{"the ends the other way round", key(greatest, greatest), key(least, least), api.ErrQuery},
		{"low a place less", key(0), key(10, 12), api.ErrQuery},
		{"low a place more", key(0, 0, 0), key(10, 12), api.ErrQuery},
		{"high a place less", key(0, 0), key(10), api.ErrQuery},
		{"high a place more", key(0, 0), key(10, 12, 0), api.ErrQuery},
		{"both a place less", key(0), key(10), api.ErrQuery},
		{"both a place more", key(0, 0, 0), key(10, 12, 1), api.ErrQuery},
		{"no low", nil, key(10, 12), api.ErrQuery},
		{"no high", key(0, 0), nil, api.ErrQuery},
		{"no box", nil, nil, api.ErrQuery},
		{"no box, empty", []int{}, []int{}, api.ErrQuery},
	} {
		// A box is of members, whatever the levels that are asked for.
		for _, levels := range [][]int{{0, 0}, {1, 2}, {2, 3}} {
			if got := Check(two(), ask(levels, c.low, c.high)); got != c.want {
				t.Errorf("%s, at %v: Check of %v, %v = %v", c.name, levels, c.low, c.high, got)
			}
		}
	}
}

// Each of what may be wrong with each of the others: what the chapter names first is told, and no rows with it.
func TestWhichErrorComesFirst(t *testing.T) {
	many := run(0, 501)
	lists := []struct {
		l   []api.Dim
		bad bool
	}{{[]api.Dim{dim(600, 2)}, false}, {nil, true}, {[]api.Dim{dim(600, 1)}, true}, {[]api.Dim{dim(0)}, true}}
	levels := []struct {
		levels []int
		bad    bool
	}{{key(0), false}, {key(-1), true}, {key(3), true}, {nil, true}, {key(0, 0), true}}
	boxes := []struct {
		low, high []int
		bad       bool
	}{{key(0), key(600), false}, {key(-1), key(600), true}, {key(0), key(601), true}, {key(4), key(3), true}, {nil, nil, true}, {key(0, 0), key(600, 1), true}}
	tables := []struct {
		rows []api.Row
		bad  bool
	}{{many, false}, {slices.Concat(many, many[:1]), true}, {[]api.Row{of(nil, 1)}, true}, {[]api.Row{of(key(0, 0), 1)}, true}, {[]api.Row{{Key: key(0)}}, true}}
	for _, d := range lists {
		for _, v := range levels {
			for _, b := range boxes {
				for _, r := range tables {
					q := ask(v.levels, b.low, b.high)
					check, want := api.OK, api.ErrMany
					switch {
					case d.bad:
						check, want = api.ErrDims, api.ErrDims
					case v.bad:
						check, want = api.ErrLevel, api.ErrLevel
					case b.bad:
						check, want = api.ErrQuery, api.ErrQuery
					case r.bad:
						want = api.ErrArg
					}
					if got := Check(d.l, q); got != check {
						t.Errorf("Check(%v, %v) = %v, want %v", d.l, q, got, check)
					}
					if got, e := Run(d.l, r.rows, q); e != want || len(got) != 0 {
						t.Errorf("Run(%v, .., %v) = %d rows, %v, want %v", d.l, q, len(got), e, want)
					}
				}
			}
		}
	}
}

func TestRun(t *testing.T) {
	one := []api.Dim{dim(10, 5)}
	members := []api.Row{of(key(1), 3), of(key(4), -1, 6), of(key(7), 9)}
	pairs := []api.Row{of(key(0, 0), 1), of(key(0, 7), 2), of(key(3, 1), 3), of(key(4, 5), 4), of(key(5, 0), 5), of(key(9, 11), 6, 60)}
	for _, c := range []struct {
		name string
		l    []api.Dim
		t    []api.Row
		q    api.Query
		want []api.Row
	}{
		{"the chapter's example", one, members, ask(key(1), key(0), key(10)), []api.Row{of(key(0), 3, -1, 6), of(key(1), 9)}},
		{"level 0 of all members", one, members, allOf(one, 0), members},
		{"the last level", one, members, allOf(one, 2), []api.Row{of(key(0), 3, -1, 6, 9)}},
		{"members from some on", one, members, ask(key(1), key(4), key(10)), []api.Row{of(key(0), -1, 6), of(key(1), 9)}},
		{"members below some", one, members, ask(key(1), key(0), key(4)), []api.Row{of(key(0), 3)}},
		{"one member", one, members, ask(key(0), key(4), key(5)), members[1:2]},
		{"one member, at the last level", one, members, ask(key(2), key(7), key(8)), []api.Row{of(key(0), 9)}},
		{"a box with nothing in it", one, members, ask(key(0), key(4), key(4)), nil},
		{"a box with nothing in it, at the last level", one, members, ask(key(2), key(10), key(10)), nil},
		{"none are within", one, members, ask(key(1), key(5), key(7)), nil},
		{"none are within, at the last level", one, members, ask(key(2), key(8), key(10)), nil},
		{"no rows", one, nil, allOf(one, 0), nil},
		{"no rows, empty", one, []api.Row{}, allOf(one, 2), nil},

		{"two dimensions, level 0", two(), pairs, allOf(two(), 0, 0), pairs},
		{"levels apart", two(), pairs, allOf(two(), 1, 0), []api.Row{of(key(0, 0), 1), of(key(0, 1), 3), of(key(0, 5), 4), of(key(0, 7), 2), of(key(1, 0), 5), of(key(1, 11), 6, 60)}},
		{"the other way round", two(), pairs, allOf(two(), 0, 2), []api.Row{of(key(0, 0), 1), of(key(0, 1), 2), of(key(3, 0), 3), of(key(4, 0), 4), of(key(5, 0), 5), of(key(9, 1), 6, 60)}},
		{"levels between", two(), pairs, allOf(two(), 1, 1), []api.Row{of(key(0, 0), 1, 3), of(key(0, 2), 4), of(key(0, 3), 2), of(key(1, 0), 5), of(key(1, 5), 6, 60)}},
		{"the last level of the first", two(), pairs, allOf(two(), 2, 2), []api.Row{of(key(0, 0), 1, 3, 4, 5), of(key(0, 1), 2, 6, 60)}},
		{"the last level of the second", two(), pairs, allOf(two(), 1, 3), []api.Row{of(key(0, 0), 1, 2, 3, 4), of(key(1, 0), 5, 6, 60)}},
		{"the last level of both", two(), pairs, allOf(two(), 2, 3), []api.Row{of(key(0, 0), 1, 2, 3, 4, 5, 6, 60)}},
		{"a box of both", two(), pairs, ask(key(2, 3), key(0, 1), key(5, 8)), []api.Row{of(key(0, 0), 2, 3, 4)}},
		{"a box of members, not of what they are at the level", two(), pairs, ask(key(1, 2), key(5, 6), key(10, 12)), []api.Row{of(key(1, 1), 6, 60)}},
		{"nothing in one place", two(), pairs, ask(key(2, 3), key(0, 7), key(10, 7)), nil},

		{"comes to nought", one, []api.Row{of(key(0), 4), of(key(1), -4)}, allOf(one, 1), []api.Row{row(api.Cell{N: 2, Min: -4, Max: 4}, 0)}},
		{"sums go round", one, []api.Row{of(key(0), math.MaxInt64), of(key(1), 1)}, allOf(one, 2), []api.Row{row(api.Cell{N: 2, Sum: math.MinInt64, Min: 1, Max: math.MaxInt64}, 0)}},
		{"how many goes round", one, []api.Row{row(api.Cell{N: math.MaxInt64, Sum: 5, Min: 1, Max: 2}, 0), of(key(1), 1)}, allOf(one, 2), []api.Row{row(api.Cell{N: math.MinInt64, Sum: 6, Min: 1, Max: 2}, 0)}},
		{"keys that are no members are in no box", one, []api.Row{of(key(9), 1), of(key(10), 2), of(key(greatest), 3)}, allOf(one, 2), []api.Row{of(key(0), 1)}},
		{"the greatest member", []api.Dim{dim(api.MaxSize)}, []api.Row{of(key(0), 1), of(key(api.MaxSize-1), 2)}, ask(key(0), key(1), key(api.MaxSize)), []api.Row{of(key(api.MaxSize-1), 2)}},
		{"one member in all", []api.Dim{dim(1)}, []api.Row{of(key(0), 1)}, ask(key(1), key(0), key(1)), []api.Row{of(key(0), 1)}},
		{"four dimensions", four(), []api.Row{of(key(0, 5, 7, 9), 1), of(key(3, 0, 0, 0), 2), of(key(3, 1, 1, 2), 3), of(key(3, 5, 7, 9), 4)}, allOf(four(), 0, 1, 2, 4), []api.Row{of(key(0, 2, 1, 0), 1), of(key(3, 0, 0, 0), 2, 3), of(key(3, 2, 1, 0), 4)}},
	} {
		got, e := Run(c.l, c.t, c.q)
		if !equal(got, c.want) || e != api.OK {
			t.Errorf("%s: Run(%v, %v, %v) = %v, %v, want %v", c.name, c.l, c.t, c.q, got, e, c.want)
		}
	}
}

func TestRunOfNoTable(t *testing.T) {
	good := of(key(1, 1), 4)
	for _, c := range []struct {
		name string
		t    []api.Row
	}{
		{"keys that fall", []api.Row{of(key(2, 0), 1), of(key(1, 9), 1)}},
		{"keys that fall at the last place", []api.Row{of(key(2, 1), 1), of(key(2, 0), 1)}},
		{"a key twice", []api.Row{good, good}},
		{"a place less", []api.Row{of(key(1), 4)}},
		{"a place more", []api.Row{of(key(1, 1, 0), 4)}},
		{"no place", []api.Row{of(nil, 4)}},
		{"a place less behind", []api.Row{good, of(key(2), 4)}},
		{"a place more behind", []api.Row{good, of(key(1, 1, 0), 4)}},
		{"a place below 0", []api.Row{of(key(0, -1), 4), good}},
		{"the least place", []api.Row{of(key(least, 0), 4), good}},
		{"no numbers", []api.Row{good, row(api.Cell{}, 2, 0)}},
		{"fewer numbers than none", []api.Row{good, row(api.Cell{N: -1}, 2, 0)}},
		{"Min above Max", []api.Row{good, row(api.Cell{N: 2, Min: 3, Max: 1}, 2, 0)}},
		{"one number with another Sum", []api.Row{good, row(api.Cell{N: 1, Sum: 3, Min: 4, Max: 4}, 2, 0)}},
		{"a key twice, that is no member", []api.Row{of(key(50, 50), 1), of(key(50, 50), 1)}},
	} {
		// Also with a box that leaves all of it out: the table is asked, not what is cut from it.
		for _, q := range []api.Query{allOf(two(), 0, 0), allOf(two(), 2, 3), ask(key(1, 1), key(9, 9), key(10, 10)), ask(key(0, 0), key(4, 4), key(4, 4))} {
			if got, e := Run(two(), c.t, q); e != api.ErrArg || len(got) != 0 {
				t.Errorf("%s: Run(.., %v, %v) = %v, %v", c.name, c.t, q, got, e)
			}
		}
	}
}

// What counts is how many rows are told, not how many were asked of, nor how many were within.
func TestRunOfManyRows(t *testing.T) {
	l := []api.Dim{dim(api.MaxSize, 2, 20)}
	for _, c := range []struct {
		name string
		l    []api.Dim
		t    []api.Row
		q    api.Query
		n    int
		want api.Errno
	}{
		{"499", l, run(0, 499), allOf(l, 0), 499, api.OK},
		{"500", l, run(0, 500), allOf(l, 0), 500, api.OK},
		{"501", l, run(0, 501), allOf(l, 0), 0, api.ErrMany},
		{"all members", l, run(0, api.MaxSize), allOf(l, 0), 0, api.ErrMany},
		{"501, of which 500 are within", l, run(0, 501), ask(key(0), key(1), key(501)), 500, api.OK},
		{"502, of which 501 are within", l, run(0, 502), ask(key(0), key(1), key(502)), 0, api.ErrMany},
		{"501, none of which are within", l, run(0, 501), ask(key(0), key(501), key(900)), 0, api.OK},
		{"1000, rolled to 500", l, run(0, 1000), allOf(l, 1), 500, api.OK},
		{"1001, rolled to 501", l, run(0, 1001), allOf(l, 1), 0, api.ErrMany},
		{"all members, rolled to 500", l, run(0, api.MaxSize), allOf(l, 2), 500, api.OK},
		{"all members, rolled to one", l, run(0, api.MaxSize), allOf(l, 3), 1, api.OK},
		{"all members, a box of 1000, rolled to 500", l, run(0, api.MaxSize), ask(key(1), key(2000), key(3000)), 500, api.OK},
		{"all members, a box of 1000 that begins between, rolled to 501", l, run(0, api.MaxSize), ask(key(1), key(2001), key(3001)), 0, api.ErrMany},
	} {
		got, e := Run(c.l, c.t, c.q)
		if len(got) != c.n || e != c.want || !table.Sound(got, 1) {
			t.Errorf("%s: %d rows, %v, want %d, %v", c.name, len(got), e, c.n, c.want)
		}
	}
}

func TestJoin(t *testing.T) {
	odd, none := api.Cell{N: -2, Sum: 3, Min: 9, Max: 1}, api.Cell{Sum: 5}
	for _, c := range []struct {
		name  string
		parts [][]api.Row
		want  []api.Row
	}{
		{"no parts", nil, nil},
		{"no parts, empty", [][]api.Row{}, nil},
		{"one part with no rows", [][]api.Row{nil}, nil},
		{"parts with no rows", [][]api.Row{nil, {}, nil}, nil},
		{"one part", [][]api.Row{{of(key(0, 2), 4), of(key(1, 0), 3, 5)}}, []api.Row{of(key(0, 2), 4), of(key(1, 0), 3, 5)}},
		{"parts that share no keys", [][]api.Row{{of(key(3), 1)}, {of(key(0), 2), of(key(9), 3)}, {of(key(4), 4)}}, []api.Row{of(key(0), 2), of(key(3), 1), of(key(4), 4), of(key(9), 3)}},
		{"parts that share keys", [][]api.Row{{of(key(1), 1), of(key(2), 2)}, {of(key(2), 7), of(key(3), 3)}, {of(key(1), -4), of(key(2), 5)}}, []api.Row{of(key(1), 1, -4), of(key(2), 2, 7, 5), of(key(3), 3)}},
		{"parts with no rows between", [][]api.Row{nil, {of(key(1), 1)}, {}, {of(key(1), 2)}, nil}, []api.Row{of(key(1), 1, 2)}},
		{"one part many times", [][]api.Row{{of(key(1), 1)}, {of(key(1), 1)}, {of(key(1), 1)}}, []api.Row{of(key(1), 1, 1, 1)}},
		{"a nought at a key of another", [][]api.Row{{of(key(1), 0)}, {of(key(1), 3)}}, []api.Row{row(api.Cell{N: 2, Sum: 3, Max: 3}, 1)}},
		{"no place", [][]api.Row{{of(nil, 1)}, {of([]int{}, 2)}}, []api.Row{of(nil, 1, 2)}},
		{"sums go round", [][]api.Row{{of(key(0), math.MaxInt64)}, {of(key(0), 1)}}, []api.Row{row(api.Cell{N: 2, Sum: math.MinInt64, Min: 1, Max: math.MaxInt64}, 0)}},
		{"how many goes round", [][]api.Row{{row(api.Cell{N: math.MaxInt64, Sum: 5, Min: 1, Max: 2}, 0)}, {of(key(0), 1)}}, []api.Row{row(api.Cell{N: math.MinInt64, Sum: 6, Min: 1, Max: 2}, 0)}},

		{"no table: keys that fall", [][]api.Row{{of(key(9), 1), of(key(2), 2)}}, []api.Row{of(key(2), 2), of(key(9), 1)}},
		{"no table: a key twice in one part", [][]api.Row{{of(key(2), 1), of(key(2), 2)}, {of(key(2), 4)}}, []api.Row{of(key(2), 1, 2, 4)}},
		{"no table: keys of other lengths", [][]api.Row{{of(key(1, 0), 1)}, {of(key(1), 2)}, {of(nil, 3)}, {of(key(1, 0, 0), 4)}}, []api.Row{of(nil, 3), of(key(1), 2), of(key(1, 0), 1), of(key(1, 0, 0), 4)}},
		{"no table: places below 0, and the ends", [][]api.Row{{of(key(greatest), 1)}, {of(key(-1), 2)}, {of(key(least), 3)}, {of(key(0), 4)}}, []api.Row{of(key(least), 3), of(key(-1), 2), of(key(0), 4), of(key(greatest), 1)}},
		{"no table: no numbers", [][]api.Row{{row(api.Cell{}, 1)}, {row(api.Cell{}, 2)}, {of(key(2), 7)}}, []api.Row{row(api.Cell{}, 1), of(key(2), 7)}},
		{"no table: zero values", [][]api.Row{make([]api.Row, 2), make([]api.Row, 1)}, make([]api.Row, 1)},
		{"no table: cells as they are", [][]api.Row{{row(odd, 1)}, {row(none, 2)}}, []api.Row{row(odd, 1), row(none, 2)}},
		{"no table: the last of no numbers stands", [][]api.Row{{row(none, 1)}, {row(api.Cell{Sum: 8}, 1)}}, []api.Row{row(api.Cell{Sum: 8}, 1)}},
		{"no table: how many come to none, in order", [][]api.Row{{row(odd, 1)}, {row(api.Cell{N: 2, Sum: 4, Min: 1, Max: 3}, 1)}, {of(key(1), 6)}}, []api.Row{of(key(1), 6)}},
	} {
		got, e := Join(c.parts)
		if !equal(got, c.want) || e != api.OK {
			t.Errorf("%s: Join(%v) = %v, %v, want %v", c.name, c.parts, got, e, c.want)
		}
	}
}

func TestJoinOfManyRows(t *testing.T) {
	singles := func(from, to int) [][]api.Row {
		var out [][]api.Row
		for _, r := range run(from, to) {
			out = append(out, []api.Row{r})
		}
		return out
	}
	for _, c := range []struct {
		name  string
		parts [][]api.Row
		n     int
		want  api.Errno
	}{
		{"499 in one part", [][]api.Row{run(0, 499)}, 499, api.OK},
		{"500 in one part", [][]api.Row{run(0, 500)}, 500, api.OK},
		{"501 in one part", [][]api.Row{run(0, 501)}, 0, api.ErrMany},
		{"500 in two parts", [][]api.Row{run(250, 500), run(0, 250)}, 500, api.OK},
		{"501 in two parts", [][]api.Row{run(250, 501), run(0, 250)}, 0, api.ErrMany},
		{"501, the last of one", [][]api.Row{run(0, 500), run(500, 501)}, 0, api.ErrMany},
		{"501, the first of one", [][]api.Row{run(0, 1), run(1, 501)}, 0, api.ErrMany},
		{"501, and parts with no rows behind", [][]api.Row{run(0, 501), nil, nil}, 0, api.ErrMany},
		{"500 in parts of one", singles(0, 500), 500, api.OK},
		{"501 in parts of one", singles(0, 501), 0, api.ErrMany},
		{"1000 rows of 500 keys", [][]api.Row{run(0, 500), run(0, 500)}, 500, api.OK},
		{"900 rows of 501 keys", [][]api.Row{run(0, 450), run(51, 501)}, 0, api.ErrMany},
		{"1000 rows of 500 keys in one part", [][]api.Row{slices.Concat(run(0, 500), run(0, 500))}, 500, api.OK},
		{"1002 rows of 501 keys in one part", [][]api.Row{slices.Concat(run(0, 501), run(0, 501))}, 0, api.ErrMany},
		{"many rows of one key", [][]api.Row{slices.Repeat(run(3, 4), 2000), slices.Repeat(run(3, 4), 2000)}, 1, api.OK},
		{"very many parts", slices.Repeat(singles(0, 500), 200), 500, api.OK},
		{"very many parts with no rows", make([][]api.Row, 200000), 0, api.OK},
	} {
		got, e := Join(c.parts)
		if len(got) != c.n || e != c.want || !table.Sound(got, 1) {
			t.Errorf("%s: %d rows, %v, want %d, %v", c.name, len(got), e, c.n, c.want)
		}
	}
}

// drawer draws the same ones each time.
func drawer() *rand.Rand { return rand.New(rand.NewSource(6)) }

func drawFacts(s *rand.Rand, l []api.Dim, most int) []api.Fact {
	out := make([]api.Fact, s.Intn(most+1))
	for i := range out {
		out[i].V = int64(s.Intn(19) - 9)
		for _, d := range l {
			out[i].Key = append(out[i].Key, s.Intn(d.Size))
		}
	}
	return out
}

func drawQuery(s *rand.Rand, l []api.Dim) (q api.Query) {
	for _, d := range l {
		a, b := s.Intn(d.Size+1), s.Intn(d.Size+1)
		if s.Intn(2) == 0 {
			a, b = 0, d.Size
		}
		q.Low, q.High = append(q.Low, min(a, b)), append(q.High, max(a, b))
		q.Levels = append(q.Levels, s.Intn(len(d.Div)+2))
	}
	return q
}

// plain is what a query tells of facts, said with none of the layers' calls but cell's: each number counts by itself, and rows are sought one by one.
func plain(l []api.Dim, facts []api.Fact, q api.Query) []api.Row {
	var out []api.Row
next:
	for _, f := range facts {
		k := slices.Clone(f.Key)
		for i, d := range l {
			if k[i] < q.Low[i] || k[i] >= q.High[i] {
				continue next
			}
			switch level := q.Levels[i]; {
			case level > len(d.Div):
				k[i] = 0
			case level > 0:
				k[i] /= d.Div[level-1]
			}
		}
		at := 0
		for at < len(out) && slices.Compare(out[at].Key, k) < 0 {
			at++
		}
		if at == len(out) || !slices.Equal(out[at].Key, k) {
			out = slices.Insert(out, at, api.Row{Key: k})
		}
		out[at].Cell = cell.Merge(out[at].Cell, cell.Of(f.V))
	}
	return out
}

// T1: the table of a query is what its facts come to.
func TestRunIsWhatFactsComeTo(t *testing.T) {
	s := drawer()
	for n := range 600 {
		l := four()[n%4:]
		facts, q := drawFacts(s, l, 300), drawQuery(s, l)
		want := plain(l, facts, q)
		if Check(l, q) != api.OK || len(want) > api.MaxRows {
			t.Fatalf("%v may not be asked, or tells %d rows", q, len(want))
		}
		got, e := Run(l, table.Make(facts), q)
		if !equal(got, want) || e != api.OK {
			t.Fatalf("Run(%v, .., %v) = %v, %v, want %v", l, q, got, e, want)
		}
		if !table.Sound(got, len(l)) {
			t.Fatalf("Run(%v, .., %v) is no table: %v", l, q, got)
		}
	}
}

// deal gives each fact to one of so many parts.
func deal(s *rand.Rand, facts []api.Fact, parts int) [][]api.Fact {
	out := make([][]api.Fact, parts)
	for _, f := range facts {
		i := s.Intn(parts)
		out[i] = append(out[i], f)
	}
	return out
}

// The section 'What holds': asked part by part, and joined, it is the same; the order of parts is nothing, nor is it which are joined ahead.
func TestPartByPart(t *testing.T) {
	s := drawer()
	for n := range 400 {
		l := four()[n%4:]
		facts, q := drawFacts(s, l, 250), drawQuery(s, l)
		want, e := Run(l, table.Make(facts), q)
		if e != api.OK {
			t.Fatalf("Run(%v, .., %v): %v", l, q, e)
		}
		var parts [][]api.Row
		for _, f := range deal(s, facts, 1+s.Intn(7)) {
			p, e := Run(l, table.Make(f), q)
			if e != api.OK {
				t.Fatalf("Run of a part, %v: %v", q, e)
			}
			parts = append(parts, p)
		}
		for range 4 {
			if got, e := Join(parts); !equal(got, want) || e != api.OK {
				t.Fatalf("Join(%v) = %v, %v, want %v", parts, got, e, want)
			}
			s.Shuffle(len(parts), func(i, j int) { parts[i], parts[j] = parts[j], parts[i] })
		}
		at := s.Intn(len(parts) + 1)
		a, e1 := Join(parts[:at])
		b, e2 := Join(parts[at:])
		if got, e := Join([][]api.Row{b, a}); !equal(got, want) || e1 != api.OK || e2 != api.OK || e != api.OK {
			t.Fatalf("joined by steps: %v, %v, want %v", got, e, want)
		}
	}
}

// As nodes hold members of the first dimension: each part has its own range, and the parts of it together are the whole, cut at any member.
func TestPartsOfRanges(t *testing.T) {
	s := drawer()
	l := two()
	for range 100 {
		facts, q := drawFacts(s, l, 150), drawQuery(s, l)
		want, e := Run(l, table.Make(facts), q)
		for middle := 0; middle <= l[0].Size; middle++ {
			var halves [2][]api.Fact
			for _, f := range facts {
				at := 0
				if f.Key[0] >= middle {
					at = 1
				}
				halves[at] = append(halves[at], f)
			}
			a, e1 := Run(l, table.Make(halves[0]), q)
			b, e2 := Run(l, table.Make(halves[1]), q)
			got, e3 := Join([][]api.Row{b, a})
			if !equal(got, want) || e != api.OK || e1 != api.OK || e2 != api.OK || e3 != api.OK {
				t.Fatalf("cut at %d, %v: %v, want %v", middle, q, got, want)
			}
		}
	}
}

// Where the whole has too many rows, so have its parts, joined, in whichever order; where they have not, neither has it.
func TestPartByPartOfMany(t *testing.T) {
	s := drawer()
	l := []api.Dim{dim(700, 2), dim(3)}
	seen := map[api.Errno]int{}
	for n := range 60 {
		var facts []api.Fact
		for i := range 499 + n%4 {
			facts = append(facts, api.Fact{Key: key(i, i%3), V: int64(i)}, api.Fact{Key: key(i, i%3), V: -1})
		}
		q := allOf(l, 0, n%2)
		want, e := Run(l, table.Make(facts), q)
		seen[e]++
		var parts [][]api.Row
		for _, f := range deal(s, facts, 2+n%5) {
			p, e := Run(l, table.Make(f), q)
			if e != api.OK {
				t.Fatalf("Run of a part: %v", e)
			}
			parts = append(parts, p)
		}
		for range 3 {
			if got, f := Join(parts); !equal(got, want) || f != e {
				t.Fatalf("Join of %d parts: %d rows, %v; of the whole %d, %v", len(parts), len(got), f, len(want), e)
			}
			s.Shuffle(len(parts), func(i, j int) { parts[i], parts[j] = parts[j], parts[i] })
		}
	}
	if seen[api.OK] != 30 || seen[api.ErrMany] != 30 {
		t.Errorf("asked: %v", seen)
	}
}

func TestArgumentsStay(t *testing.T) {
	rows := func() []api.Row {
		return []api.Row{of(key(0, 2), 4), of(key(0, 3), 1, 2), of(key(3, 2), 5), of(key(9, 9), 6)}
	}
	loose := func() []api.Row { return []api.Row{of(key(5), 1), row(api.Cell{N: -1}, 1, 1), of(key(0, 2), 4)} }
	l, r, parts := two(), rows(), [][]api.Row{rows(), nil, loose(), rows()}
	queries := func() []api.Query {
		return []api.Query{allOf(two(), 0, 0), allOf(two(), 1, 2), ask(key(2, 3), key(0, 3), key(4, 3)), ask(key(9, 0), key(0, 0), key(1, 1)), ask(key(0, 0), key(5, 5), key(1, 1))}
	}
	asked := queries()
	for _, q := range asked {
		Check(l, q)
		Run(l, r, q)
		Run(l, parts[2], q)
	}
	Join(parts)
	Join([][]api.Row{parts[2]})
	if !reflect.DeepEqual(l, two()) || !reflect.DeepEqual(r, rows()) || !reflect.DeepEqual(asked, queries()) || !reflect.DeepEqual(parts, [][]api.Row{rows(), nil, loose(), rows()}) {
		t.Errorf("changed: %v %v %v %v", l, r, asked, parts)
	}
}

// spoil writes over all of a list that can be reached, behind its length too.
func spoil(l []int) {
	l = l[:cap(l)]
	for i := range l {
		l[i] = 77
	}
}

func spoilRows(t []api.Row) {
	for _, r := range t {
		spoil(r.Key)
	}
	t = t[:cap(t)]
	for i := range t {
		t[i] = of(key(88), 88)
	}
}

// isNewMemory writes over answers: neither another answer, nor another row of it may change by that.
func isNewMemory(t *testing.T, name string, answer func() []api.Row) {
	t.Helper()
	first, second := answer(), answer()
	want := copyOf(first)
	spoilRows(second)
	if len(first) == 0 || !equal(first, want) {
		t.Errorf("%s: two answers share memory: %v, was %v", name, first, want)
	}
	for i := range first {
		spoilRows(first[i : i+1 : i+1])
		want[i] = first[i]
		if !equal(first, want) {
			t.Errorf("%s: two rows share memory: %v", name, first)
		}
	}
}

func TestRunIsNewMemory(t *testing.T) {
	rows := []api.Row{of(key(0, 2), 4), of(key(3, 2), 5), of(key(9, 9), 6)}
	kept := copyOf(rows)
	for name, q := range map[string]api.Query{"as it is": allOf(two(), 0, 0), "a piece": ask(key(0, 0), key(0, 0), key(4, 4)), "rolled": allOf(two(), 1, 1), "as one": allOf(two(), 2, 3)} {
		l, levels, low, high := two(), slices.Clone(q.Levels), slices.Clone(q.Low), slices.Clone(q.High)
		isNewMemory(t, name, func() []api.Row {
			got, _ := Run(l, rows, q)
			return got
		})
		if !equal(rows, kept) || !reflect.DeepEqual(l, two()) || !reflect.DeepEqual(q, ask(levels, low, high)) {
			t.Fatalf("%s: the answer shares memory with what was handed in: %v, %v, %v", name, rows, l, q)
		}
	}
	out, _ := Run(two(), rows, allOf(two(), 0, 0))
	spoilRows(rows)
	if !equal(out, kept) {
		t.Errorf("the answer changed by what was handed in: %v, was %v", out, kept)
	}
}

func TestJoinIsNewMemory(t *testing.T) {
	one := []api.Row{of(key(0, 2), 4), of(key(3, 2), 5)}
	shared := []api.Row{of(key(1, 1), 1), {Key: one[1].Key, Cell: cell.Of(3)}}
	for name, parts := range map[string][][]api.Row{"one part": {one}, "one part, others with no rows": {nil, one, nil}, "one part twice": {one, one}, "parts that share a key's memory": {one, shared}} {
		var kept [][]api.Row
		for _, p := range parts {
			kept = append(kept, copyOf(p))
		}
		isNewMemory(t, name, func() []api.Row {
			got, _ := Join(parts)
			return got
		})
		if !slices.EqualFunc(parts, kept, equal) {
			t.Fatalf("%s: the answer shares memory with what was handed in: %v", name, parts)
		}
	}
	out, _ := Join([][]api.Row{one})
	want := copyOf(one)
	spoilRows(one)
	if !equal(out, want) {
		t.Errorf("the answer changed by what was handed in: %v, was %v", out, want)
	}
}

// nothingBehind says whether what is behind the lengths of an answer is nought, or of the answer's own numbers: none is the mark that the arguments have there.
func nothingBehind(t *testing.T, got []api.Row) {
	t.Helper()
	for _, r := range got[:cap(got)] {
		if slices.Contains(r.Key[:cap(r.Key)], 7) || r.Cell == cell.Of(7) {
			t.Errorf("behind the length was handed out: %v", r)
		}
	}
}

// What lies behind a list's length is neither read, nor written, nor handed out: each list here is the front of one that would answer otherwise.
func TestNothingBehindTheLengthIsTouched(t *testing.T) {
	long := func() []int { return key(1, 2, 7) }
	k := long()
	rows := func(k []int) []api.Row {
		return []api.Row{of(key(0, 9), 1), {Key: k[:2], Cell: cell.Of(2)}, of(key(7, 7), 7), of(key(0, 0), 7)}
	}
	whole := rows(k)
	l := append(two(), dim(0))
	levels, low, high := key(0, 0, 7), key(0, 0, 7), key(10, 12, 7)
	q := ask(levels[:2], low[:2], high[:2])
	if e := Check(l[:2], q); e != api.OK {
		t.Errorf("Check of fronts: %v", e)
	}
	want := []api.Row{of(key(0, 9), 1), of(key(1, 2), 2)}
	got, e := Run(l[:2], whole[:2], q)
	if !equal(got, want) || e != api.OK {
		t.Errorf("Run of fronts = %v, %v", got, e)
	}
	nothingBehind(t, got)
	parts := [][]api.Row{whole[1:2], whole[:1], {of(key(7, 0), 7)}, whole[2:3]}
	joined, e := Join(parts[:2])
	if !equal(joined, want) || e != api.OK {
		t.Errorf("Join of fronts = %v, %v", joined, e)
	}
	nothingBehind(t, joined)
	spoilRows(got)
	spoilRows(joined)
	if !equal(whole, rows(long())) || !slices.Equal(k, long()) || !reflect.DeepEqual(l, append(two(), dim(0))) {
		t.Errorf("behind the length was written: %v, %v, %v", whole, k, l)
	}
	if !slices.Equal(levels, key(0, 0, 7)) || !slices.Equal(low, key(0, 0, 7)) || !slices.Equal(high, key(10, 12, 7)) {
		t.Errorf("behind the length was written: %v, %v, %v", levels, low, high)
	}
	if !slices.EqualFunc(parts, [][]api.Row{{whole[1]}, {whole[0]}, {of(key(7, 0), 7)}, {whole[2]}}, equal) {
		t.Errorf("behind the parts' length was written: %v", parts)
	}
}

// T7: whatever is asked of whatever, no call panics; with an error there are no rows, without one it is a table that may be told, and Run's error is Check's where that has one.
func TestAnyNumbers(t *testing.T) {
	dimensions := [][]api.Dim{nil, {dim(3, 2)}, {dim(3), dim(2)}, {dim(greatest, greatest)}, {dim(least, 0, -1)}, make([]api.Dim, 2), make([]api.Dim, 9)}
	lists := [][]int{nil, key(0), key(1), key(3), key(-1), key(least), key(greatest), key(0, 0), key(1, 2), key(least, greatest), key(0, 0, 0, 0, 0)}
	tables := [][]api.Row{nil, {{}}, {of(key(0), 1), of(key(2), 2)}, {of(key(0, 0), 1), of(key(2, 1), 2)}, {of(key(greatest), 1)}, {of(key(least, 0), 1)}, {of(key(0), 1), of(key(0), 1)}, {{Key: key(0), Cell: api.Cell{N: math.MinInt64, Min: 1}}}}
	answered := map[api.Errno]int{}
	for _, l := range dimensions {
		for _, levels := range lists {
			for _, low := range lists {
				for _, high := range lists {
					q := ask(levels, low, high)
					check := Check(l, q)
					for _, rows := range tables {
						got, e := Run(l, rows, q)
						answered[e]++
						if e != api.OK && len(got) != 0 || check != api.OK && e != check || !table.Sound(got, len(l)) {
							t.Fatalf("Run(%v, %v, %v) = %v, %v; Check %v", l, rows, q, got, e, check)
						}
					}
				}
			}
		}
	}
	for _, e := range []api.Errno{api.OK, api.ErrDims, api.ErrLevel, api.ErrQuery, api.ErrArg} {
		if answered[e] == 0 {
			t.Errorf("%v was never answered: %v", e, answered)
		}
	}
	for i := range tables {
		if got, e := Join(tables[i:]); e != api.OK || len(got) == 0 {
			t.Errorf("Join(%v) = %v, %v", tables[i:], got, e)
		}
	}
}

func ExampleRun() {
	l := []api.Dim{{Size: 10, Div: []int{5}}}
	t := table.Make([]api.Fact{{Key: []int{1}, V: 3}, {Key: []int{4}, V: 4}, {Key: []int{7}, V: 5}})
	fmt.Println(Run(l, t, api.Query{Levels: []int{1}, Low: []int{0}, High: []int{10}}))
	// Output: [{[0] {2 7 3 4}} {[1] {1 5 5 5}}] stratum 0
}

func ExampleJoin() {
	a := table.Make([]api.Fact{{Key: []int{0}, V: 3}})
	b := table.Make([]api.Fact{{Key: []int{0}, V: 4}, {Key: []int{1}, V: 5}})
	t, _ := Join([][]api.Row{b, a})
	fmt.Println(t)
	// Output: [{[0] {2 7 3 4}} {[1] {1 5 5 5}}]
}
