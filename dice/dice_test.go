package dice

import (
	"fmt"
	"math"
	"math/rand"
	"reflect"
	"slices"
	"testing"

	"stratum/api"
	"stratum/cell"
	"stratum/dims"
	"stratum/table"
)

const (
	least    = math.MinInt
	greatest = math.MaxInt
)

func key(places ...int) []int { return places }

func row(c api.Cell, places ...int) api.Row { return api.Row{Key: places, Cell: c} }

// of is a row of one number.
func of(v int64, places ...int) api.Row { return row(cell.Of(v), places...) }

func sizes(l ...int) []api.Dim {
	out := make([]api.Dim, len(l))
	for i, n := range l {
		out[i].Size = n
	}
	return out
}

func equal(a, b []api.Row) bool {
	return slices.EqualFunc(a, b, func(x, y api.Row) bool { return slices.Equal(x.Key, y.Key) && x.Cell == y.Cell })
}

// copyOf shares no memory with what it is a copy of.
func copyOf(t []api.Row) []api.Row {
	out := slices.Clone(t)
	for i := range out {
		out[i].Key = slices.Clone(out[i].Key)
	}
	return out
}

// eachKey calls do with all keys of so many places whose numbers are of some.
func eachKey(places int, numbers []int, do func(key []int)) {
	k := make([]int, places)
	var walk func(i int)
	walk = func(i int) {
		if i == places {
			do(slices.Clone(k))
			return
		}
		for _, v := range numbers {
			k[i] = v
			walk(i + 1)
		}
	}
	walk(0)
}

func TestSound(t *testing.T) {
	for _, c := range []struct {
		name      string
		l         []api.Dim
		low, high []int
		want      bool
	}{
		{"ordinary", sizes(10, 20), key(2, 3), key(5, 9), true},
		{"four dimensions", sizes(10, 20, 30, 40), key(1, 2, 3, 4), key(9, 19, 29, 39), true},
		{"no dimension, no place", nil, nil, nil, true},
		{"no dimension, no place, empty", []api.Dim{}, []int{}, nil, true},
		{"all members", sizes(10, 20), key(0, 0), key(10, 20), true},
		{"one member", sizes(10), key(4), key(5), true},
		{"the first member", sizes(10), key(0), key(1), true},
		{"the last member", sizes(10), key(9), key(10), true},
		{"the one member", sizes(1), key(0), key(1), true},
		{"nothing in it", sizes(10), key(4), key(4), true},
		{"nothing in it, at the beginning", sizes(10), key(0), key(0), true},
		{"nothing in it, at the end", sizes(10), key(10), key(10), true},
		{"nothing in one place", sizes(10, 20), key(0, 7), key(10, 7), true},
		{"Size MaxSize", sizes(api.MaxSize), key(0), key(api.MaxSize), true},
		{"divisors are nothing", []api.Dim{{Size: 10, Div: []int{3, 2, 0, -1, 7}}}, key(0), key(10), true},
		{"more dimensions than may be", sizes(2, 2, 2, 2, 2), key(0, 0, 0, 0, 0), key(2, 2, 2, 2, 2), true},
		{"Size 0", sizes(0), key(0), key(0), true},
		{"Size 0, a member", sizes(0), key(0), key(1), false},
		{"Size below 0", sizes(-1), key(0), key(0), false},
		{"Size below 0, low and high at it", sizes(-1), key(-1), key(-1), false},
		{"the greatest Size", sizes(greatest), key(0), key(greatest), true},
		{"the greatest Size, nothing in it", sizes(greatest), key(greatest), key(greatest), true},
		{"the least Size", sizes(least), key(0), key(0), false},

		{"low below 0", sizes(10), key(-1), key(5), false},
		{"low below 0, in the last place", sizes(10, 20), key(0, -1), key(10, 20), false},
		{"low below 0, in the first place", sizes(10, 20), key(-1, 0), key(10, 20), false},
		{"the least low", sizes(10), key(least), key(5), false},
		{"low above high by one", sizes(10), key(5), key(4), false},
		{"low above high, in the first place", sizes(10, 20), key(5, 0), key(4, 20), false},
		{"low above high, in the last place", sizes(10, 20), key(0, 5), key(10, 4), false},
		{"the greatest low", sizes(10), key(greatest), key(10), false},
		{"high above Size by one", sizes(10), key(0), key(11), false},
		{"high above Size, in the first place", sizes(10, 20), key(0, 0), key(11, 20), false},
		{"high above Size, in the last place", sizes(10, 20), key(0, 0), key(10, 21), false},
		{"high at another's Size", sizes(10, 20), key(0, 0), key(20, 10), false},
		{"the greatest high", sizes(10), key(0), key(greatest), false},
		{"the least high", sizes(10), key(0), key(least), false},
		{"low and high below 0", sizes(10), key(-5), key(-3), false},
		{"low and high above Size", sizes(10), key(11), key(11), false},
		{"low and high at the ends of all", sizes(10), key(least), key(greatest), false},

		{"low a place less", sizes(10, 20), key(0), key(10, 20), false},
		{"low a place more", sizes(10, 20), key(0, 0, 0), key(10, 20), false},
		{"high a place less", sizes(10, 20), key(0, 0), key(10), false},
		{"high a place more", sizes(10, 20), key(0, 0), key(10, 20, 0), false},
		{"both a place less", sizes(10, 20), key(0), key(10), false},
		{"both a place more", sizes(10, 20), key(0, 0, 0), key(10, 20, 0), false},
		{"one less, one more", sizes(10, 20), key(0), key(10, 20, 20), false},
		{"no low", sizes(10), nil, key(10), false},
		{"no high", sizes(10), key(0), nil, false},
		{"no place, a dimension", sizes(10), nil, nil, false},
		{"a place, no dimension", nil, key(0), key(0), false},
		{"low alone, no dimension", nil, key(0), nil, false},
		{"high alone, no dimension", nil, nil, key(0), false},
	} {
		if got := Sound(c.l, c.low, c.high); got != c.want {
			t.Errorf("%s: Sound(%v, %v, %v) = %v", c.name, c.l, c.low, c.high, got)
		}
	}
}

func TestWithin(t *testing.T) {
	for _, c := range []struct {
		name           string
		low, high, key []int
		want           bool
	}{
		{"the chapter's example", key(0, 2), key(3, 5), key(2, 2), true},
		{"the chapter's example, at high", key(0, 2), key(3, 5), key(3, 2), false},
		{"no place", nil, nil, nil, true},
		{"no place, empty", []int{}, nil, []int{}, true},
		{"one member", key(4), key(5), key(4), true},
		{"one member, another below", key(4), key(5), key(3), false},
		{"one member, another above", key(4), key(5), key(5), false},
		{"nothing in it", key(4), key(4), key(4), false},
		{"nothing in it, a key below", key(4), key(4), key(3), false},
		{"nothing in one place", key(0, 4), key(9, 4), key(4, 4), false},
		{"high below low", key(6), key(3), key(4), false},
		{"high below low, at low", key(6), key(3), key(6), false},
		{"high below low, at high", key(6), key(3), key(3), false},
		{"below 0", key(-5), key(-3), key(-4), true},
		{"nought, from below on", key(-5), key(3), key(0), true},
		{"all numbers, the least", key(least), key(greatest), key(least), true},
		{"all numbers, just below the greatest", key(least), key(greatest), key(greatest - 1), true},
		{"all numbers, the greatest", key(least), key(greatest), key(greatest), false},
		{"the least number alone", key(least), key(least + 1), key(least), true},
		{"the least number, below a box", key(least + 1), key(greatest), key(least), false},
		{"the greatest number, above a box", key(0), key(10), key(greatest), false},
		{"the least number, below an ordinary box", key(0), key(10), key(least), false},
		{"the ends the other way round", key(greatest), key(least), key(0), false},

		{"low a place less", key(0), key(3, 5), key(2, 2), false},
		{"low a place more", key(0, 2, 0), key(3, 5), key(2, 2), false},
		{"high a place less", key(0, 2), key(3), key(2, 2), false},
		{"high a place more", key(0, 2), key(3, 5, 9), key(2, 2), false},
		{"key a place less", key(0, 2), key(3, 5), key(2), false},
		{"key a place more", key(0, 2), key(3, 5), key(2, 2, 2), false},
		{"low alone a place less, high a place more", key(0), key(3, 5, 9), key(2, 2), false},
		{"no low", nil, key(5), key(2), false},
		{"no high", key(0), nil, key(2), false},
		{"no key", key(0), key(5), nil, false},
		{"low alone", key(0), nil, nil, false},
		{"high alone", nil, key(5), nil, false},
		{"key alone", nil, nil, key(2), false},
	} {
		if got := Within(c.low, c.high, c.key); got != c.want {
			t.Errorf("%s: Within(%v, %v, %v) = %v", c.name, c.low, c.high, c.key, got)
		}
	}
}

// Of each place in its turn, the others in the middle: the edges of the box.
func TestWithinAtTheEdgesOfEachPlace(t *testing.T) {
	low, high, middle := key(3, 10, 0, 7), key(6, 20, 3, 10), key(4, 15, 1, 8)
	if !Within(low, high, middle) {
		t.Fatal("the middle")
	}
	for i := range low {
		for _, c := range []struct {
			name string
			v    int
			want bool
		}{
			{"just below low", low[i] - 1, false},
			{"at low", low[i], true},
			{"just below high", high[i] - 1, true},
			{"at high", high[i], false},
			{"just above high", high[i] + 1, false},
			{"the least", least, false},
			{"the greatest", greatest, false},
		} {
			k := slices.Clone(middle)
			k[i] = c.v
			if got := Within(low, high, k); got != c.want {
				t.Errorf("place %d %s: Within(%v, %v, %v) = %v", i, c.name, low, high, k, got)
			}
		}
	}
}

// A box of dimensions holds members alone, and as many as its sides have it; the box of all members holds each.
func TestSoundBoxesHoldMembers(t *testing.T) {
	l := sizes(3, 2)
	all := key(-1, 0, 1, 2, 3, 4)
	eachKey(2, all, func(low []int) {
		eachKey(2, all, func(high []int) {
			n := 0
			eachKey(2, all, func(k []int) {
				if !Within(low, high, k) {
					return
				}
				n++
				if Sound(l, low, high) && !dims.In(l, k) {
					t.Errorf("box %v, %v holds %v, which is no member", low, high, k)
				}
			})
			if Sound(l, low, high) && n != (high[0]-low[0])*(high[1]-low[1]) {
				t.Errorf("box %v, %v holds %d keys", low, high, n)
			}
		})
	})
	eachKey(2, all, func(k []int) {
		if Within(key(0, 0), key(3, 2), k) != dims.In(l, k) {
			t.Errorf("the box of all members and %v", k)
		}
	})
}

func TestCut(t *testing.T) {
	members := []api.Row{of(1, 0, 0), of(2, 0, 4), of(3, 2, 2), of(4, 2, 4), of(5, 3, 2), of(6, 9, 9)}
	odd, none := api.Cell{N: -2, Sum: 3, Min: 9, Max: 1}, api.Cell{Sum: 5}
	loose := []api.Row{row(odd, 5), of(7, 1), row(none, 3), of(8, 5), of(9, 1), row(api.Cell{}, 2), row(odd, 5), row(odd, 7)}
	mixed := []api.Row{of(1, 1, 1), of(2, 1), of(3), of(4, 1, 1, 1), of(5, 0), of(6, -1), row(odd, 1)}
	for _, c := range []struct {
		name      string
		t         []api.Row
		low, high []int
		want      []api.Row
	}{
		{"ordinary", members, key(0, 2), key(3, 5), members[1:4]},
		{"the ends are apart", members, key(0, 4), key(3, 10), []api.Row{members[1], members[3]}},
		{"one side cuts", members, key(2, 0), key(3, 10), members[2:4]},
		{"all are within", members, key(0, 0), key(10, 10), members},
		{"the last is just not within", members, key(0, 0), key(9, 10), members[:5]},
		{"the first is just not within", members, key(0, 1), key(10, 10), members[1:]},
		{"none is within", members, key(4, 0), key(9, 10), nil},
		{"one member", members, key(2, 4), key(3, 5), members[3:4]},
		{"a box with nothing in it", members, key(2, 2), key(2, 5), nil},
		{"high below low", members, key(9, 9), key(0, 0), nil},
		{"all numbers", members, key(least, least), key(greatest, greatest), members},
		{"no rows", nil, key(0, 0), key(10, 10), nil},
		{"no rows, empty", []api.Row{}, key(0, 0), key(10, 10), nil},
		{"no rows, no place", nil, nil, nil, nil},
		{"no place", []api.Row{of(3), of(4)}, nil, []int{}, []api.Row{of(3), of(4)}},

		{"no table: order, keys twice, cells stay", loose, key(1), key(6), loose[:7]},
		{"no table: a piece", loose, key(2), key(6), []api.Row{loose[0], loose[2], loose[3], loose[5], loose[6]}},
		{"no table: keys twice alone", loose, key(5), key(6), []api.Row{loose[0], loose[3], loose[6]}},
		{"no table: cells of no numbers", loose, key(2), key(4), []api.Row{loose[2], loose[5]}},
		{"keys of other lengths, one place", mixed, key(-1), key(2), []api.Row{mixed[1], mixed[4], mixed[5], mixed[6]}},
		{"keys of other lengths, two places", mixed, key(0, 0), key(2, 2), mixed[:1]},
		{"keys of other lengths, no place", mixed, nil, nil, mixed[2:3]},
		{"keys below 0", mixed, key(least), key(0), mixed[5:6]},
		{"zero values", make([]api.Row, 2), nil, nil, make([]api.Row, 2)},
		{"the least and the greatest places", []api.Row{of(1, greatest), of(2, least), of(3, greatest-1)}, key(least), key(greatest), []api.Row{of(2, least), of(3, greatest-1)}},

		{"low a place less", members, key(0), key(10, 10), nil},
		{"low a place more", members, key(0, 0, 0), key(10, 10), nil},
		{"high a place less", members, key(0, 0), key(10), nil},
		{"high a place more", members, key(0, 0), key(10, 10, 10), nil},
		{"both a place less", members, key(0), key(10), nil},
		{"both a place more", members, key(0, 0, 0), key(10, 10, 10), nil},
		{"no low", members, nil, key(10, 10), nil},
		{"no high", members, key(0, 0), nil, nil},
		{"no box", members, nil, nil, nil},
	} {
		if got := Cut(c.t, c.low, c.high); !equal(got, c.want) {
			t.Errorf("%s: Cut(%v, %v, %v) = %v, want %v", c.name, c.t, c.low, c.high, got, c.want)
		}
	}
}

func TestMeet(t *testing.T) {
	for _, c := range []struct {
		name                string
		low, high, from, to []int
		first, end          []int
		is                  bool
	}{
		{"one reaches into the other", key(0), key(5), key(3), key(9), key(3), key(5), true},
		{"two places", key(0, 4), key(5, 9), key(3, 0), key(9, 6), key(3, 4), key(5, 6), true},
		{"four places", key(0, 1, 2, 3), key(9, 9, 9, 9), key(3, 2, 1, 0), key(5, 6, 7, 8), key(3, 2, 2, 3), key(5, 6, 7, 8), true},
		{"five places", key(0, 0, 0, 0, 0), key(2, 2, 2, 2, 2), key(1, 1, 1, 1, 1), key(3, 3, 3, 3, 3), key(1, 1, 1, 1, 1), key(2, 2, 2, 2, 2), true},
		{"one within the other", key(0), key(9), key(3), key(5), key(3), key(5), true},
		{"within, from the same low", key(0), key(9), key(0), key(5), key(0), key(5), true},
		{"within, to the same high", key(0), key(9), key(3), key(9), key(3), key(9), true},
		{"the same twice", key(3, 2), key(9, 4), key(3, 2), key(9, 4), key(3, 2), key(9, 4), true},
		{"one member, twice", key(3), key(4), key(3), key(4), key(3), key(4), true},
		{"one member in common", key(0), key(5), key(4), key(9), key(4), key(5), true},
		{"no place", nil, nil, nil, nil, nil, nil, true},
		{"no place, empty", []int{}, nil, []int{}, nil, nil, nil, true},
		{"below 0", key(-9), key(-2), key(-5), key(3), key(-5), key(-2), true},
		{"all numbers, and an ordinary box", key(least), key(greatest), key(3), key(5), key(3), key(5), true},
		{"all numbers, twice", key(least), key(greatest), key(least), key(greatest), key(least), key(greatest), true},
		{"the least number alone", key(least), key(least + 1), key(least), key(0), key(least), key(least + 1), true},
		{"up to the greatest number", key(greatest - 1), key(greatest), key(0), key(greatest), key(greatest - 1), key(greatest), true},

		{"they touch", key(0), key(5), key(5), key(9), nil, nil, false},
		{"apart", key(0), key(5), key(6), key(9), nil, nil, false},
		{"far apart", key(least), key(least + 1), key(greatest - 1), key(greatest), nil, nil, false},
		{"apart in the first place alone", key(0, 0), key(5, 9), key(5, 0), key(9, 9), nil, nil, false},
		{"apart in the last place alone", key(0, 0), key(9, 5), key(0, 5), key(9, 9), nil, nil, false},
		{"apart in the middle alone", key(0, 0, 0), key(9, 2, 9), key(0, 3, 0), key(9, 4, 9), nil, nil, false},
		{"one with nothing in it", key(0), key(9), key(4), key(4), nil, nil, false},
		{"one with nothing in it, twice", key(4), key(4), key(4), key(4), nil, nil, false},
		{"nothing in one place", key(0, 4), key(9, 4), key(0, 0), key(9, 9), nil, nil, false},
		{"high below low", key(6), key(3), key(0), key(9), nil, nil, false},
		{"to below from", key(0), key(9), key(6), key(3), nil, nil, false},
		{"the ends the other way round", key(greatest), key(least), key(0), key(9), nil, nil, false},

		{"low a place less", key(0), key(5, 5), key(3, 3), key(9, 9), nil, nil, false},
		{"low a place more", key(0, 0, 0), key(5, 5), key(3, 3), key(9, 9), nil, nil, false},
		{"high a place less", key(0, 0), key(5), key(3, 3), key(9, 9), nil, nil, false},
		{"high a place more", key(0, 0), key(5, 5, 5), key(3, 3), key(9, 9), nil, nil, false},
		{"from a place less", key(0, 0), key(5, 5), key(3), key(9, 9), nil, nil, false},
		{"from a place more", key(0, 0), key(5, 5), key(3, 3, 3), key(9, 9), nil, nil, false},
		{"to a place less", key(0, 0), key(5, 5), key(3, 3), key(9), nil, nil, false},
		{"to a place more", key(0, 0), key(5, 5), key(3, 3), key(9, 9, 9), nil, nil, false},
		{"the second box a place less", key(0, 0), key(5, 5), key(3), key(9), nil, nil, false},
		{"the second box a place more", key(0, 0), key(5, 5), key(3, 3, 3), key(9, 9, 9), nil, nil, false},
		{"low and from a place more", key(0, 0), key(5), key(3, 3), key(9), nil, nil, false},
		{"no low", nil, key(5), key(3), key(9), nil, nil, false},
		{"no high", key(0), nil, key(3), key(9), nil, nil, false},
		{"no from", key(0), key(5), nil, key(9), nil, nil, false},
		{"no to", key(0), key(5), key(3), nil, nil, nil, false},
		{"low alone", key(0), nil, nil, nil, nil, nil, false},
		{"high alone", nil, key(5), nil, nil, nil, nil, false},
		{"from alone", nil, nil, key(3), nil, nil, nil, false},
		{"to alone", nil, nil, nil, key(9), nil, nil, false},
		{"no second box", key(0), key(5), nil, nil, nil, nil, false},
	} {
		first, end, is := Meet(c.low, c.high, c.from, c.to)
		if !slices.Equal(first, c.first) || !slices.Equal(end, c.end) || is != c.is {
			t.Errorf("%s: Meet(%v, %v, %v, %v) = %v, %v, %v, want %v, %v, %v", c.name, c.low, c.high, c.from, c.to, first, end, is, c.first, c.end, c.is)
		}
		first, end, is = Meet(c.from, c.to, c.low, c.high)
		if !slices.Equal(first, c.first) || !slices.Equal(end, c.end) || is != c.is {
			t.Errorf("%s, the other way round: %v, %v, %v, want %v, %v, %v", c.name, first, end, is, c.first, c.end, c.is)
		}
	}
}

// holdsInCommon is the section 'What holds' of two boxes and the keys that are asked: in both, or in what they have in common, it is the same.
func holdsInCommon(t *testing.T, low, high, from, to []int, keys [][]int) {
	t.Helper()
	first, end, is := Meet(low, high, from, to)
	some := false
	for _, k := range keys {
		both := Within(low, high, k) && Within(from, to, k)
		some = some || both
		if common := is && Within(first, end, k); common != both {
			t.Fatalf("%v in %v, %v and in %v, %v: %v; in what they have in common, %v, %v, %v: %v", k, low, high, from, to, both, first, end, is, common)
		}
	}
	if is != some {
		t.Fatalf("Meet(%v, %v, %v, %v) says %v; a key in both: %v", low, high, from, to, is, some)
	}
}

// All boxes of one place, sound or not, and all of two places from few numbers: the keys are all that they could hold.
func TestWhatIsInBothIsInCommon(t *testing.T) {
	for places, numbers := range [][]int{{0}, {-2, -1, 0, 1, 2, 3}, {0, 1, 2}} {
		var keys [][]int
		eachKey(places, numbers, func(k []int) { keys = append(keys, k) })
		for _, low := range keys {
			for _, high := range keys {
				for _, from := range keys {
					for _, to := range keys {
						holdsInCommon(t, low, high, from, to, keys)
					}
				}
			}
		}
	}
}

// drawer draws the same ones each time.
func drawer() *rand.Rand { return rand.New(rand.NewSource(5)) }

func drawKey(s *rand.Rand, l []api.Dim) []int {
	k := make([]int, len(l))
	for i, d := range l {
		k[i] = s.Intn(d.Size)
	}
	return k
}

func drawBox(s *rand.Rand, l []api.Dim) (low, high []int) {
	for _, d := range l {
		a, b := s.Intn(d.Size+1), s.Intn(d.Size+1)
		low, high = append(low, min(a, b)), append(high, max(a, b))
	}
	return low, high
}

func TestWhatIsInBothIsInCommonOfMorePlaces(t *testing.T) {
	s := drawer()
	for n := range 2000 {
		l := sizes(3, 4, 2, 3)[:n%4+1]
		var keys [][]int
		eachKey(len(l), key(0, 1, 2, 3), func(k []int) { keys = append(keys, k) })
		low, high := drawBox(s, l)
		from, to := drawBox(s, l)
		if !Sound(l, low, high) || !Sound(l, from, to) {
			t.Fatalf("no boxes: %v, %v; %v, %v", low, high, from, to)
		}
		if first, end, is := Meet(low, high, from, to); is && !Sound(l, first, end) {
			t.Fatalf("Meet(%v, %v, %v, %v) is no box: %v, %v", low, high, from, to, first, end)
		}
		holdsInCommon(t, low, high, from, to, keys)
	}
}

// Cut by one box and by the other, or by what they have in common, it is the same rows.
func TestCutTwiceOrByWhatIsInCommon(t *testing.T) {
	s := drawer()
	l := sizes(6, 5)
	for range 1000 {
		rows := make([]api.Row, s.Intn(40))
		for i := range rows {
			rows[i] = api.Row{Key: drawKey(s, l), Cell: api.Cell{N: int64(s.Intn(4) - 1), Sum: int64(i)}}
		}
		low, high := drawBox(s, l)
		from, to := drawBox(s, l)
		want := Cut(Cut(rows, low, high), from, to)
		var got []api.Row
		if first, end, is := Meet(low, high, from, to); is {
			got = Cut(rows, first, end)
		}
		if !equal(got, want) {
			t.Fatalf("%v cut by %v, %v and by %v, %v: %v; by what they have in common: %v", rows, low, high, from, to, want, got)
		}
	}
}

// T1, as far as this layer bears it: cut ahead of merging or behind, ahead of making or behind, in pieces or whole, a table is what its facts come to.
func TestCutAheadOrBehind(t *testing.T) {
	s := drawer()
	l := sizes(6, 5, 4)
	for range 300 {
		facts, within := make([]api.Fact, s.Intn(120)), []api.Fact(nil)
		low, high := drawBox(s, l)
		for i := range facts {
			facts[i] = api.Fact{Key: drawKey(s, l), V: int64(s.Intn(9) - 4)}
			if Within(low, high, facts[i].Key) {
				within = append(within, facts[i])
			}
		}
		whole, want := table.Make(facts), table.Make(within)
		got := Cut(whole, low, high)
		if !equal(got, want) || !table.Sound(got, len(l)) {
			t.Fatalf("cut by %v, %v: %v, want %v", low, high, got, want)
		}
		at := s.Intn(len(facts) + 1)
		a, b := Cut(table.Make(facts[:at]), low, high), Cut(table.Make(facts[at:]), low, high)
		if got := table.Merge(b, a); !equal(got, want) {
			t.Fatalf("cut by %v, %v ahead of merging: %v, want %v", low, high, got, want)
		}
		middle := s.Intn(l[0].Size + 1)
		left, right := Cut(whole, key(0, 0, 0), key(middle, 5, 4)), Cut(whole, key(middle, 0, 0), key(6, 5, 4))
		if got := slices.Concat(left, right); !equal(got, whole) {
			t.Fatalf("cut in two at %d: %v and %v, of %v", middle, left, right, whole)
		}
	}
}

func TestArgumentsStay(t *testing.T) {
	rows := func() []api.Row {
		return []api.Row{of(4, 3, 2), row(api.Cell{N: -1}, 0, 2), of(5, 9, 9), of(6, 0, 2)}
	}
	r, l, low, high, from, to := rows(), []api.Dim{{Size: 4, Div: []int{2}}, {Size: 6}}, key(0, 2), key(4, 6), key(1, 0), key(3, 9)
	Sound(l, low, high)
	Sound(l, from, to)
	Within(low, high, r[0].Key)
	Within(low, high, r[2].Key)
	Cut(r, low, high)
	Cut(r, from, to)
	Meet(low, high, from, to)
	Meet(from, to, low, high)
	Meet(low, high, high, to)
	if !reflect.DeepEqual(r, rows()) || !reflect.DeepEqual(l, []api.Dim{{Size: 4, Div: []int{2}}, {Size: 6}}) {
		t.Errorf("changed: %v %v", r, l)
	}
	if !slices.Equal(low, key(0, 2)) || !slices.Equal(high, key(4, 6)) || !slices.Equal(from, key(1, 0)) || !slices.Equal(to, key(3, 9)) {
		t.Errorf("changed: %v %v %v %v", low, high, from, to)
	}
}

// spoil writes over all of a list that can be reached, behind its length too.
func spoil(l []int) {
	l = l[:cap(l)]
	for i := range l {
		l[i] = 77
	}
}

func spoilRows(t []api.Row) {
	for _, r := range t {
		spoil(r.Key)
	}
	t = t[:cap(t)]
	for i := range t {
		t[i] = of(88, 88)
	}
}

// Each answer is written over; neither what was handed in, nor another answer, nor another row of it may change by that.
func TestCutIsNewMemory(t *testing.T) {
	rows := []api.Row{of(1, 0, 2), of(2, 2, 2), of(3, 9, 9), of(4, 2, 2)}
	rows[3].Key = rows[1].Key // two rows that are handed in may share a key: those that come out may not
	kept := copyOf(rows)
	for name, high := range map[string][]int{"all": key(10, 10), "some": key(3, 3), "one": key(1, 3)} {
		first, second := Cut(rows, key(0, 0), high), Cut(rows, key(0, 0), high)
		want := copyOf(first)
		spoilRows(second)
		if !equal(first, want) {
			t.Errorf("%s: two answers share memory: %v, was %v", name, first, want)
		}
		if !equal(rows, kept) {
			t.Fatalf("%s: the answer shares memory with what was handed in: %v, was %v", name, rows, kept)
		}
		for i := range first {
			spoilRows(first[i : i+1 : i+1])
			want[i] = first[i]
			if !equal(first, want) {
				t.Errorf("%s: two rows share memory: %v", name, first)
			}
		}
	}
	out := Cut(rows, key(0, 0), key(10, 10))
	for i := range rows {
		spoil(rows[i].Key)
		rows[i].Cell = cell.Of(9)
	}
	if !equal(out, kept) {
		t.Errorf("the answer changed by what was handed in: %v, was %v", out, kept)
	}
}

func TestMeetIsNewMemory(t *testing.T) {
	for _, c := range []struct {
		name                string
		low, high, from, to []int
	}{
		{"the first box within the second", key(3, 3), key(5, 5), key(0, 0), key(9, 9)},
		{"the second within the first", key(0, 0), key(9, 9), key(3, 3), key(5, 5)},
		{"the same twice", key(3, 3), key(5, 5), key(3, 3), key(5, 5)},
		{"crosswise", key(0, 3), key(5, 9), key(3, 0), key(9, 5)},
	} {
		lists := [][]int{c.low, c.high, c.from, c.to}
		var kept [][]int
		for _, l := range lists {
			kept = append(kept, slices.Clone(l))
		}
		first, end, _ := Meet(c.low, c.high, c.from, c.to)
		wantFirst, wantEnd := slices.Clone(first), slices.Clone(end)
		again, last, _ := Meet(c.low, c.high, c.from, c.to)
		spoil(again)
		if !slices.Equal(last, wantEnd) {
			t.Errorf("%s: the two lists of one answer share memory: %v", c.name, last)
		}
		spoil(last)
		if !slices.Equal(first, wantFirst) || !slices.Equal(end, wantEnd) {
			t.Errorf("%s: two answers share memory: %v, %v", c.name, first, end)
		}
		for i, l := range lists {
			if !slices.Equal(l, kept[i]) {
				t.Errorf("%s: the answer shares memory with list %d that was handed in", c.name, i)
			}
			spoil(l)
		}
		if !slices.Equal(first, wantFirst) || !slices.Equal(end, wantEnd) {
			t.Errorf("%s: the answer changed by what was handed in: %v, %v", c.name, first, end)
		}
	}
	box, top := key(3, 3), key(5, 5) // one list handed in as two
	first, end, is := Meet(box, top, box, top)
	if !is || !slices.Equal(first, key(3, 3)) || !slices.Equal(end, key(5, 5)) {
		t.Errorf("Meet of a box with itself = %v, %v, %v", first, end, is)
	}
}

// What lies behind a list's length is neither read, nor written, nor handed out: each list here is the front of one that would answer otherwise.
func TestNothingBehindTheLengthIsTouched(t *testing.T) {
	long := key(1, 2, 7)
	rows := func() []api.Row {
		return []api.Row{{Key: long[:2], Cell: cell.Of(1)}, {Key: long[:1], Cell: cell.Of(2)}, of(3, 1, 2), of(4, 5, 5)}
	}
	low, high, from, to := key(0, 0, -1), key(9, 9, 0), key(1, 1, 8), key(5, 5, 8)
	if !Sound(append(sizes(9, 9), api.Dim{})[:2], low[:2], high[:2]) {
		t.Error("Sound of fronts")
	}
	if !Within(low[:2], high[:2], long[:2]) || Within(low[:2], high[:2], long[:1]) {
		t.Error("Within of fronts")
	}
	whole := rows()
	got := Cut(whole[:2], low[:2], high[:2])
	if !equal(got, []api.Row{of(1, 1, 2)}) {
		t.Errorf("Cut of fronts = %v", got)
	}
	for _, r := range got {
		if slices.Contains(r.Key[:cap(r.Key)], 7) {
			t.Errorf("behind a key's length was handed out: %v", r.Key[:cap(r.Key)])
		}
	}
	for _, r := range got[len(got):cap(got)] {
		if len(r.Key) != 0 || r.Cell != (api.Cell{}) {
			t.Errorf("behind the rows' length was handed out: %v", r)
		}
	}
	first, end, is := Meet(low[:2], high[:2], from[:2], to[:2])
	if !is || !slices.Equal(first, key(1, 1)) || !slices.Equal(end, key(5, 5)) {
		t.Errorf("Meet of fronts = %v, %v, %v", first, end, is)
	}
	if slices.Contains(first[:cap(first)], 8) || slices.Contains(end[:cap(end)], 8) {
		t.Errorf("behind a list's length was handed out: %v, %v", first[:cap(first)], end[:cap(end)])
	}
	spoil(first)
	spoil(end)
	spoilRows(got)
	if !equal(whole, rows()) || !slices.Equal(long, key(1, 2, 7)) {
		t.Errorf("behind the length was written: %v, %v", whole, long)
	}
	if !slices.Equal(low, key(0, 0, -1)) || !slices.Equal(high, key(9, 9, 0)) || !slices.Equal(from, key(1, 1, 8)) || !slices.Equal(to, key(5, 5, 8)) {
		t.Errorf("behind the length was written: %v, %v, %v, %v", low, high, from, to)
	}
}

// T7: no numbers, in lists of whatever lengths, make a call panic; what comes out is what may.
func TestAnyNumbers(t *testing.T) {
	lists := [][]int{nil}
	eachKey(1, key(least, -1, 0, 1, greatest), func(k []int) { lists = append(lists, k) })
	eachKey(2, key(least, 0, greatest), func(k []int) { lists = append(lists, k) })
	lists = append(lists, key(0, 0, 0, 0, 0, 0))
	for _, low := range lists {
		for _, high := range lists {
			for _, from := range lists {
				Sound(sizes(from...), low, high)
				in := Within(low, high, from)
				if got := Cut([]api.Row{{Key: from}, {}}, low, high); in != (len(got) > 0 && slices.Equal(got[0].Key, from)) {
					t.Fatalf("Within(%v, %v, %v) = %v, and Cut %v", low, high, from, in, got)
				}
				for _, to := range lists {
					first, end, is := Meet(low, high, from, to)
					if !is && (len(first) != 0 || len(end) != 0) || is && (len(first) != len(low) || len(end) != len(low)) {
						t.Fatalf("Meet(%v, %v, %v, %v) = %v, %v, %v", low, high, from, to, first, end, is)
					}
				}
			}
		}
	}
}

func ExampleWithin() {
	low, high := []int{0, 2}, []int{3, 5}
	fmt.Println(Within(low, high, []int{2, 2}), Within(low, high, []int{3, 2}))
	// Output: true false
}

func ExampleMeet() {
	fmt.Println(Meet([]int{0, 0}, []int{5, 5}, []int{3, 2}, []int{9, 4}))
	// Output: [3 2] [5 4] true
}
