package dims

import (
	"math"
	"reflect"
	"slices"
	"testing"

	"stratum/api"
)

func dim(size int, div ...int) api.Dim { return api.Dim{Size: size, Div: div} }

func TestSoundOfHowMany(t *testing.T) {
	for _, c := range []struct {
		n    int
		want bool
	}{{0, false}, {1, true}, {2, true}, {3, true}, {4, true}, {5, false}, {6, false}} {
		l := make([]api.Dim, c.n)
		for i := range l {
			l[i] = dim(10, 2)
		}
		if got := Sound(l); got != c.want {
			t.Errorf("Sound of %d dimensions = %v", c.n, got)
		}
	}
	if Sound(nil) {
		t.Error("Sound(nil)")
	}
}

var dimensions = []struct {
	name string
	d    api.Dim
	want bool
}{
	{"the chapter's example", dim(100, 5, 20), true},
	{"zero value", api.Dim{}, false},
	{"Size 0", dim(0, 2), false},
	{"Size -1", dim(-1, 2), false},
	{"least Size", dim(math.MinInt), false},
	{"Size 1", dim(1), true},
	{"Size 1 and a divisor", dim(1, 2), true},
	{"Size 10000", dim(10000, 2), true},
	{"Size 10001", dim(10001, 2), false},
	{"greatest Size", dim(math.MaxInt), false},
	{"nil divisors", api.Dim{Size: 10}, true},
	{"empty divisors", api.Dim{Size: 10, Div: []int{}}, true},
	{"four divisors", dim(10, 2, 4, 8, 16), true},
	{"five divisors", dim(10, 2, 4, 8, 16, 32), false},
	{"first 0", dim(10, 0), false},
	{"first 0, then 2", dim(10, 0, 2), false},
	{"first -2", dim(10, -2), false},
	{"first -2, then 2", dim(10, -2, 2), false},
	{"first least", dim(10, math.MinInt), false},
	{"first 1", dim(10, 1), false},
	{"first 1, then 2", dim(10, 1, 2), false},
	{"first 2", dim(10, 2), true},
	{"first 3", dim(10, 3), true},
	{"first 10000", dim(10, 10000), true},
	{"first 10001", dim(10, 10001), false},
	{"first greatest", dim(10, math.MaxInt), false},
	{"the same", dim(10, 2, 2), false},
	{"the same further on", dim(10, 2, 4, 4), false},
	{"falling", dim(10, 4, 2), false},
	{"falling further on", dim(10, 2, 8, 4), false},
	{"falling to 0", dim(10, 2, 0), false},
	{"falling below 0", dim(10, 2, -4), false},
	{"no multiple", dim(10, 3, 7), false},
	{"no multiple further on", dim(10, 2, 4, 10), false},
	{"no multiple at the end", dim(10, 2, 4, 8, 12), false},
	{"a multiple of the first alone", dim(10, 2, 6, 8), false},
	{"a multiple by three", dim(10, 3, 9), true},
	{"further one 10000", dim(10, 5, 10000), true},
	{"further one 10001", dim(10, 73, 10001), false},
	{"fourth 10000", dim(10, 10, 100, 1000, 10000), true},
	{"fourth beyond", dim(10, 20, 400, 8000, 16000), false},
	{"divisors above Size", dim(3, 4, 8), true},
}

func TestSoundOfOne(t *testing.T) {
	for _, c := range dimensions {
		if got := Sound([]api.Dim{c.d}); got != c.want {
			t.Errorf("%s: Sound(%+v) = %v", c.name, c.d, got)
		}
	}
}

// One that is not sound makes all unsound, at whichever place it stands.
func TestSoundOfEach(t *testing.T) {
	for _, c := range dimensions {
		for place := range 4 {
			l := []api.Dim{dim(1), dim(100, 5, 20), dim(10000, 2, 4, 8, 16), dim(7)}
			l[place] = c.d
			if got := Sound(l); got != c.want {
				t.Errorf("%s at place %d: Sound = %v", c.name, place, got)
			}
		}
	}
}

func TestLevels(t *testing.T) {
	for _, c := range []struct {
		d    api.Dim
		want int
	}{
		{api.Dim{}, 2},
		{dim(10), 2},
		{api.Dim{Size: 10, Div: []int{}}, 2},
		{dim(10, 2), 3},
		{dim(100, 5, 20), 4},
		{dim(10, 2, 4, 8, 16), 6},
		{dim(0, 9, 1, 1, 1, 1), 7},
	} {
		if got := Levels(c.d); got != c.want {
			t.Errorf("Levels(%+v) = %d, want %d", c.d, got, c.want)
		}
	}
}

func TestUp(t *testing.T) {
	d := dim(100, 5, 20)
	for _, c := range []struct {
		name        string
		d           api.Dim
		from, to, v int
		want        int
	}{
		{"example", d, 0, 1, 47, 9},
		{"example", d, 0, 2, 47, 2},
		{"example", d, 0, 3, 47, 0},
		{"example", d, 1, 2, 9, 2},
		{"to the last from each", d, 1, 3, 19, 0},
		{"to the last from each", d, 2, 3, 4, 0},
		{"one level to itself", d, 0, 0, 47, 47},
		{"one level to itself", d, 1, 1, 9, 9},
		{"one level to itself", d, 2, 2, 4, 4},
		{"the last to itself", d, 3, 3, 0, 0},
		{"the last to itself, of what is no member there", d, 3, 3, 7, 7},
		{"member 0", d, 0, 0, 0, 0},
		{"member 0", d, 0, 1, 0, 0},
		{"member 0", d, 0, 3, 0, 0},
		{"ahead of an edge", d, 0, 1, 4, 0},
		{"at an edge", d, 0, 1, 5, 1},
		{"ahead of an edge", d, 0, 2, 39, 1},
		{"at an edge", d, 0, 2, 40, 2},
		{"ahead of an edge", d, 1, 2, 3, 0},
		{"at an edge", d, 1, 2, 4, 1},
		{"last member", d, 0, 1, 99, 19},
		{"last member", d, 0, 2, 99, 4},
		{"behind the last member", d, 0, 0, 100, 100},
		{"behind the last member", d, 0, 1, 100, 20},
		{"behind the last member", d, 0, 3, 100, 0},
		{"far behind", d, 0, 1, math.MaxInt, math.MaxInt / 5},
		{"far behind, between divisors", d, 1, 2, math.MaxInt, math.MaxInt / 4},
		{"far behind, to the last", d, 1, 3, math.MaxInt, 0},
		{"far behind, to itself", d, 2, 2, math.MaxInt, math.MaxInt},
		{"no divisors", dim(10), 0, 0, 9, 9},
		{"no divisors", dim(10), 0, 1, 9, 0},
		{"no divisors", dim(10), 1, 1, 0, 0},
		{"one member", dim(1, 2), 0, 1, 0, 0},
		{"four divisors", dim(10000, 10, 100, 1000, 10000), 0, 4, 9999, 0},
		{"four divisors", dim(10000, 10, 100, 1000, 10000), 0, 3, 9999, 9},
		{"four divisors", dim(10000, 10, 100, 1000, 10000), 1, 3, 899, 8},
		{"four divisors", dim(10000, 10, 100, 1000, 10000), 2, 4, 99, 0},
		{"four divisors", dim(10000, 10, 100, 1000, 10000), 4, 5, 0, 0},
		{"above Size", dim(3, 4), 0, 1, 2, 0},
	} {
		if got := Up(c.d, c.from, c.to, c.v); got != c.want {
			t.Errorf("%s: Up(%+v, %d, %d, %d) = %d, want %d", c.name, c.d, c.from, c.to, c.v, got, c.want)
		}
	}
}

func TestUpThatMayNotBeAsked(t *testing.T) {
	d := dim(100, 5, 20)
	for _, c := range []struct{ from, to, v int }{
		{1, 0, 3}, {2, 1, 1}, {3, 2, 0}, {3, 0, 0},
		{-1, 0, 3}, {-1, -1, 3}, {-1, 3, 3}, {0, -1, 3}, {math.MinInt, 1, 3}, {math.MinInt, math.MinInt, 3}, {math.MinInt, math.MaxInt, 3},
		{0, 4, 3}, {3, 4, 0}, {4, 4, 0}, {5, 4, 0}, {0, math.MaxInt, 3}, {math.MaxInt, math.MaxInt, 3},
		{0, 1, -1}, {0, 0, -1}, {0, 3, -1}, {3, 3, -1}, {0, 2, math.MinInt},
	} {
		if got := Up(d, c.from, c.to, c.v); got != -1 {
			t.Errorf("Up(%d, %d, %d) = %d, want -1", c.from, c.to, c.v, got)
		}
	}
	for _, c := range dimensions {
		if got := Up(c.d, 0, 0, 0); got != 0 && c.want || got != -1 && !c.want {
			t.Errorf("%s: Up(%+v, 0, 0, 0) = %d", c.name, c.d, got)
		}
		if got := Up(c.d, 0, Levels(c.d)-1, 0); got != 0 && c.want || got != -1 && !c.want {
			t.Errorf("%s: Up(%+v) to the last level = %d", c.name, c.d, got)
		}
		for from := -1; from <= Levels(c.d); from++ {
			for to := -1; to <= Levels(c.d); to++ {
				if got := Up(c.d, from, to, 3); !c.want && got != -1 {
					t.Errorf("%s: Up(%+v, %d, %d, 3) = %d, want -1", c.name, c.d, from, to, got)
				}
			}
		}
	}
}

// What holds: by one level, or by two, it is the same member. And from level 0 it is the member divided.
func TestUpByTwoLevels(t *testing.T) {
	for _, d := range []api.Dim{dim(100), dim(100, 3), dim(100, 5, 20), dim(700, 2, 6, 30, 210), dim(60, 7, 14, 9996), dim(9, 10000)} {
		for v := range d.Size {
			for to := range Levels(d) {
				want := v
				if to == Levels(d)-1 {
					want = 0
				} else if to > 0 {
					want = v / d.Div[to-1]
				}
				if got := Up(d, 0, to, v); got != want {
					t.Fatalf("Up(%+v, 0, %d, %d) = %d, want %d", d, to, v, got, want)
				}
				for by := 0; by <= to; by++ {
					if got := Up(d, by, to, Up(d, 0, by, v)); got != want {
						t.Fatalf("%+v: %d to %d by %d is %d, want %d", d, v, to, by, got, want)
					}
				}
			}
		}
	}
}

func TestIn(t *testing.T) {
	two := []api.Dim{dim(100, 5, 20), dim(3)}
	odd := []api.Dim{dim(20000, 1), dim(0), dim(-5)}
	for _, c := range []struct {
		name string
		l    []api.Dim
		key  []int
		want bool
	}{
		{"first members", two, []int{0, 0}, true},
		{"some", two, []int{47, 1}, true},
		{"last members", two, []int{99, 2}, true},
		{"behind the last", two, []int{100, 0}, false},
		{"behind the last", two, []int{0, 3}, false},
		{"below 0", two, []int{-1, 0}, false},
		{"below 0", two, []int{0, -1}, false},
		{"the ends", two, []int{math.MinInt, 0}, false},
		{"the ends", two, []int{0, math.MaxInt}, false},
		{"a place less", two, []int{0}, false},
		{"a place more", two, []int{0, 0, 0}, false},
		{"no places", two, nil, false},
		{"empty", two, []int{}, false},
		{"four", []api.Dim{dim(1), dim(2), dim(3), dim(4)}, []int{0, 1, 2, 3}, true},
		{"four, the last one out", []api.Dim{dim(1), dim(2), dim(3), dim(4)}, []int{0, 1, 2, 4}, false},
		{"no dimensions, no places", nil, nil, true},
		{"no dimensions, no places", []api.Dim{}, nil, true},
		{"no dimensions, no places", nil, []int{}, true},
		{"no dimensions, a place", nil, []int{0}, false},
		{"not sound, but it has members", odd[:1], []int{19999}, true},
		{"not sound, behind its last", odd[:1], []int{20000}, false},
		{"no members", odd[1:2], []int{0}, false},
		{"no members", odd[1:2], []int{-1}, false},
		{"fewer than none", odd[2:], []int{-5}, false},
		{"fewer than none", odd[2:], []int{-6}, false},
		{"five", []api.Dim{dim(1), dim(1), dim(1), dim(1), dim(2)}, []int{0, 0, 0, 0, 1}, true},
	} {
		if got := In(c.l, c.key); got != c.want {
			t.Errorf("%s: In(%+v, %v) = %v", c.name, c.l, c.key, got)
		}
	}
}

func TestAt(t *testing.T) {
	one := []api.Dim{dim(100, 5, 20)}
	two := []api.Dim{dim(100, 5, 20), dim(8, 2)}
	four := []api.Dim{dim(100, 5, 20), dim(8, 2), dim(1), dim(10000, 10, 100, 1000, 10000)}
	for _, c := range []struct {
		name          string
		l             []api.Dim
		from, to, key []int
		want          []int
	}{
		{"one", one, []int{0}, []int{1}, []int{47}, []int{9}},
		{"two, each by its own", two, []int{0, 0}, []int{2, 1}, []int{47, 7}, []int{2, 3}},
		{"two, from others", two, []int{1, 0}, []int{2, 2}, []int{9, 7}, []int{2, 0}},
		{"to themselves", two, []int{0, 1}, []int{0, 1}, []int{47, 3}, []int{47, 3}},
		{"four", four, []int{0, 1, 0, 2}, []int{1, 1, 1, 3}, []int{99, 3, 0, 98}, []int{19, 3, 0, 9}},
		{"behind the last member", two, []int{0, 0}, []int{1, 0}, []int{100, 8}, []int{20, 8}},
		{"a level above the one asked for", two, []int{2, 0}, []int{1, 1}, []int{2, 5}, []int{-1, 2}},
		{"a level below 0", two, []int{0, -1}, []int{1, 1}, []int{20, 5}, []int{4, -1}},
		{"a level beyond the last", two, []int{0, 0}, []int{4, 2}, []int{20, 5}, []int{-1, 0}},
		{"a level beyond the last of its own", two, []int{0, 0}, []int{3, 3}, []int{20, 5}, []int{0, -1}},
		{"a member below 0", two, []int{0, 0}, []int{1, 1}, []int{-1, 5}, []int{-1, 2}},
		{"all wrong", two, []int{3, 2}, []int{0, 0}, []int{0, 0}, []int{-1, -1}},
		{"no dimensions", nil, nil, nil, nil, nil},
		{"no dimensions", []api.Dim{}, []int{}, []int{}, []int{}, nil},
		{"no dimensions, one place", nil, []int{0}, []int{0}, []int{0}, nil},
		{"from a place less", two, []int{0}, []int{0, 0}, []int{0, 0}, nil},
		{"from a place more", two, []int{0, 0, 0}, []int{0, 0}, []int{0, 0}, nil},
		{"to a place less", two, []int{0, 0}, []int{0}, []int{0, 0}, nil},
		{"to a place more", two, []int{0, 0}, []int{0, 0, 0}, []int{0, 0}, nil},
		{"key a place less", two, []int{0, 0}, []int{0, 0}, []int{0}, nil},
		{"key a place more", two, []int{0, 0}, []int{0, 0}, []int{0, 0, 0}, nil},
		{"all a place more", two, []int{0, 0, 0}, []int{0, 0, 0}, []int{0, 0, 0}, nil},
		{"all a place less", two, []int{0}, []int{0}, []int{0}, nil},
		{"nil from", one, nil, []int{0}, []int{0}, nil},
		{"nil to", one, []int{0}, nil, []int{0}, nil},
		{"nil key", one, []int{0}, []int{0}, nil, nil},
		{"empty key", one, []int{0}, []int{0}, []int{}, nil},
	} {
		if got := At(c.l, c.from, c.to, c.key); !slices.Equal(got, c.want) {
			t.Errorf("%s: At(%+v, %v, %v, %v) = %v, want %v", c.name, c.l, c.from, c.to, c.key, got, c.want)
		}
	}
}

func TestAtOfUnsound(t *testing.T) {
	for _, c := range dimensions {
		got := At([]api.Dim{dim(10), c.d}, []int{0, 0}, []int{0, 1}, []int{7, 0})
		want := []int{7, 0}
		if !c.want {
			want = nil
		}
		if !slices.Equal(got, want) {
			t.Errorf("%s: At = %v, want %v", c.name, got, want)
		}
	}
	five := []api.Dim{dim(1), dim(1), dim(1), dim(1), dim(1)}
	nought := make([]int, 5)
	if got := At(five, nought, nought, nought); len(got) != 0 {
		t.Errorf("At of five = %v", got)
	}
}

// T1, as far as this layer bears it: a key that is rolled up by any level on the way is the key that is rolled up at once.
func TestAtByTwoLevels(t *testing.T) {
	l := []api.Dim{dim(24, 2, 6), dim(10, 3)}
	for a := range 24 {
		for b := range 10 {
			for x := range 4 {
				for y := range 3 {
					to := []int{x, y}
					want := At(l, []int{0, 0}, to, []int{a, b})
					for u := range x + 1 {
						for v := range y + 1 {
							by := []int{u, v}
							if got := At(l, by, to, At(l, []int{0, 0}, by, []int{a, b})); !slices.Equal(got, want) {
								t.Fatalf("%d, %d to %v by %v: %v, want %v", a, b, to, by, got, want)
							}
						}
					}
				}
			}
		}
	}
}

// Each list is less than those behind it.
var risingKeys = [][]int{
	nil, {math.MinInt}, {-1}, {-1, 5}, {0}, {0, math.MinInt}, {0, 0}, {0, 0, 0}, {0, 1}, {0, math.MaxInt}, {1}, {1, 0}, {1, 0, 9}, {1, 1}, {2, 0}, {2, 0, 0, 0, 0}, {2, 0, 0, 0, 1}, {10}, {math.MaxInt}, {math.MaxInt, -1},
}

func TestCmp(t *testing.T) {
	for i, a := range risingKeys {
		for j, b := range risingKeys {
			want := 0
			if i < j {
				want = -1
			} else if i > j {
				want = 1
			}
			if got := Cmp(a, slices.Clone(b)); got != want {
				t.Errorf("Cmp(%v, %v) = %d, want %d", a, b, got, want)
			}
		}
	}
	if Cmp(nil, []int{}) != 0 || Cmp([]int{}, nil) != 0 || Cmp([]int{}, []int{0}) != -1 || Cmp([]int{0}, []int{}) != 1 {
		t.Error("nil and empty are not the same")
	}
}

// What lies behind a list's length counts for nothing: each list here is the front of one that would answer otherwise.
func TestNothingBehindTheLengthIsRead(t *testing.T) {
	div := []int{5, 20, 3}
	l := []api.Dim{{Size: 100, Div: div[:2]}, {Size: -1}}
	key := []int{47, 500}
	if !Sound(l[:1]) || Levels(l[0]) != 4 || Up(l[0], 0, 2, 47) != 2 {
		t.Error("Sound, Levels or Up of a front")
	}
	if !In(l[:1], key[:1]) || In(l[:1], key) || In(l, key[:1]) {
		t.Error("In of a front")
	}
	if got := At(l[:1], key[1:1], key[:1], key[:1]); got != nil {
		t.Errorf("At = %v", got)
	}
	if Cmp(key[:1], []int{47}) != 0 || Cmp(key[:0], key[:0]) != 0 {
		t.Error("Cmp of a front")
	}
}

func TestArgumentsStayAndAnswersAreNew(t *testing.T) {
	l := []api.Dim{dim(100, 5, 20), dim(8, 2)}
	from, to, key := []int{0, 0}, []int{2, 0}, []int{47, 7}
	first := At(l, from, to, key)
	Sound(l)
	Levels(l[0])
	Up(l[0], 0, 1, 3)
	In(l, key)
	Cmp(from, key)
	if !reflect.DeepEqual(l, []api.Dim{dim(100, 5, 20), dim(8, 2)}) || !slices.Equal(from, []int{0, 0}) || !slices.Equal(to, []int{2, 0}) || !slices.Equal(key, []int{47, 7}) {
		t.Errorf("changed: %+v %v %v %v", l, from, to, key)
	}
	same := At(l, from, from, key)
	same[0], same[1] = 1, 1
	if !slices.Equal(key, []int{47, 7}) {
		t.Errorf("the answer shares memory with the key: %v", key)
	}
	second := At(l, from, to, key)
	first[0], first[1] = 99, 99
	if !slices.Equal(second, []int{2, 7}) {
		t.Errorf("two answers share memory: %v", second)
	}
	l[0].Div[0], l[0].Size, key[0] = 2, 50, 99
	if !slices.Equal(second, []int{2, 7}) {
		t.Errorf("the answer shares memory with an argument: %v", second)
	}
}

// T7: no numbers make a call panic.
func TestAnyNumbers(t *testing.T) {
	odd := []int{math.MinInt, -10001, -1, 0, 1, 2, 3, 6, 10000, 10001, math.MaxInt}
	for _, size := range odd {
		for _, a := range odd {
			for _, b := range odd {
				d := dim(size, a, b)
				for _, v := range odd {
					for _, from := range odd {
						for _, to := range odd {
							got := Up(d, from, to, v)
							at := At([]api.Dim{d}, []int{from}, []int{to}, []int{v})
							if Sound([]api.Dim{d}) != (len(at) == 1) || len(at) == 1 && at[0] != got {
								t.Fatalf("%+v: Up(%d, %d, %d) = %d, At = %v", d, from, to, v, got, at)
							}
						}
					}
					In([]api.Dim{d}, []int{v})
				}
			}
		}
	}
}
