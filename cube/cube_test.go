package cube

import (
	"math"
	"math/rand"
	"reflect"
	"slices"
	"testing"

	"stratum/api"
	"stratum/dims"
	"stratum/query"
	"stratum/table"
)

func fact(v int64, places ...int) api.Fact { return api.Fact{Key: places, V: v} }

func entry(at uint32, l ...api.Fact) api.Entry { return api.Entry{At: at, Facts: l} }

// many is n facts, at members by turns, from one on, below another.
func many(n, from, to int) []api.Fact {
	var l []api.Fact
	for i := range n {
		l = append(l, fact(int64(i), from+i%(to-from)))
	}
	return l
}

// line is one dimension of so many members.
func line(size int) []api.Dim { return []api.Dim{{Size: size, Div: []int{5}}} }

// field is two dimensions.
func field() []api.Dim { return []api.Dim{{Size: 100, Div: []int{10, 50}}, {Size: 3}} }

// whole asks for all members of one dimension, each by itself.
func whole(size int) api.Query {
	return api.Query{Levels: []int{0}, Low: []int{0}, High: []int{size}}
}

// plain is facts with nothing behind their lists' lengths, and with nil for empty lists.
func plain(l []api.Fact) []api.Fact {
	var out []api.Fact
	for _, f := range l {
		out = append(out, api.Fact{Key: append([]int(nil), f.Key...), V: f.V})
	}
	return out
}

func plainEntries(l []api.Entry) []api.Entry {
	var out []api.Entry
	for _, e := range l {
		out = append(out, api.Entry{At: e.At, Facts: plain(e.Facts)})
	}
	return out
}

func plainRows(l []api.Row) []api.Row {
	var out []api.Row
	for _, r := range l {
		out = append(out, api.Row{Key: append([]int(nil), r.Key...), Cell: r.Cell})
	}
	return out
}

func areFacts(a, b []api.Fact) bool { return reflect.DeepEqual(plain(a), plain(b)) }

func areEntries(a, b []api.Entry) bool { return reflect.DeepEqual(plainEntries(a), plainEntries(b)) }

func areRows(a, b []api.Row) bool { return reflect.DeepEqual(plainRows(a), plainRows(b)) }

// laid is a cube with entries, which were added in the order in which they are told here.
func laid(t testing.TB, l []api.Dim, entries ...api.Entry) *Cube {
	t.Helper()
	c := New(l)
	if c == nil {
		t.Fatal("New")
	}
	for _, e := range entries {
		if err := c.Add(e.At, e.Facts); err != api.OK {
			t.Fatalf("Add at %d: %v", e.At, err)
		}
	}
	return c
}

func everything(c *Cube) []api.Entry { return c.Entries(math.MinInt, math.MaxInt) }

// stands holds all facts of a cube against entries.
func stands(t testing.TB, c *Cube, what string, want ...api.Entry) {
	t.Helper()
	if got := everything(c); !areEntries(got, want) {
		t.Errorf("%s: %v, not %v", what, got, want)
	}
}

// sums is the Sums of a query's rows, by the first places of their keys.
func sums(t testing.TB, c *Cube, q api.Query, at uint32) map[int]int64 {
	t.Helper()
	rows, e := c.Query(q, at)
	if e != api.OK {
		t.Errorf("Query at %d: %v", at, e)
	}
	out := map[int]int64{}
	for _, r := range rows {
		out[r.Key[0]] = r.Cell.Sum
	}
	return out
}

// extremes is numbers that lead over the ends of int, or of the members, if they are reckoned with.
func extremes() []int {
	return []int{math.MinInt, math.MinInt + 1, math.MinInt32, -1, 0, 1, 4, 5, 6, 99, 100, 101, 10000, math.MaxInt32, math.MaxInt - 1, math.MaxInt}
}

// What follows is the chapter's words, one by one, however slowly. The entries of a model stand in any order.

type model struct {
	l       []api.Dim
	entries map[uint32][]api.Fact
}

func newModel(l []api.Dim) *model { return &model{l: l, entries: map[uint32][]api.Fact{}} }

func (m *model) times() []uint32 {
	var out []uint32
	for at := range m.entries {
		out = append(out, at)
	}
	slices.Sort(out)
	return out
}

func (m *model) fits(l []api.Fact) bool {
	for _, f := range l {
		if !dims.In(m.l, f.Key) {
			return false
		}
	}
	return len(l) <= 200
}

func (m *model) add(at uint32, l []api.Fact) api.Errno {
	_, there := m.entries[at]
	switch {
	case !m.fits(l):
		return api.ErrArg
	case at == 0, there:
		return api.ErrAt
	case len(m.entries) == 5000:
		return api.ErrLimit
	}
	m.entries[at] = plain(l)
	return api.OK
}

func (m *model) query(q api.Query, at uint32) ([]api.Row, api.Errno) {
	var l []api.Fact
	for _, time := range m.times() {
		if time <= at {
			l = append(l, m.entries[time]...)
		}
	}
	return query.Run(m.l, table.Make(l), q)
}

func (m *model) told(from, to int) []api.Entry {
	var out []api.Entry
	for _, at := range m.times() {
		e := api.Entry{At: at}
		for _, f := range m.entries[at] {
			if from <= f.Key[0] && f.Key[0] < to {
				e.Facts = append(e.Facts, f)
			}
		}
		if len(e.Facts) != 0 {
			out = append(out, e)
		}
	}
	return plainEntries(out)
}

func (m *model) mayReplace(from, to int, l []api.Entry) bool {
	for i, e := range l {
		if e.At == 0 || i > 0 && e.At <= l[i-1].At || !m.fits(e.Facts) {
			return false
		}
		for _, f := range e.Facts {
			if f.Key[0] < from || f.Key[0] >= to {
				return false
			}
		}
	}
	return true
}

func (m *model) replace(from, to int, l []api.Entry) api.Errno {
	if !m.mayReplace(from, to, l) {
		return api.ErrArg
	}
	next := map[uint32][]api.Fact{}
	for at, facts := range m.entries {
		var left []api.Fact
		for _, f := range facts {
			if f.Key[0] < from || f.Key[0] >= to {
				left = append(left, f)
			}
		}
		if had := len(left) != len(facts); !had || len(left) != 0 {
			next[at] = left
		}
	}
	for _, e := range l {
		for _, f := range e.Facts {
			next[e.At] = append(next[e.At], plain([]api.Fact{f})...)
		}
	}
	for _, facts := range next {
		if len(facts) > 200 {
			return api.ErrLimit
		}
	}
	if len(next) > 5000 {
		return api.ErrLimit
	}
	m.entries = next
	return api.OK
}

// The chapter's example, and New.

func TestExample(t *testing.T) {
	c := New(line(10))
	if c.Add(2, []api.Fact{fact(5, 1)}) != api.OK || c.Add(1, []api.Fact{fact(7, 1)}) != api.OK {
		t.Fatal("Add")
	}
	for at, want := range map[uint32]api.Cell{1: {N: 1, Sum: 7, Min: 7, Max: 7}, 2: {N: 2, Sum: 12, Min: 5, Max: 7}} {
		got, e := c.Query(whole(10), at)
		if e != api.OK || !areRows(got, []api.Row{{Key: []int{1}, Cell: want}}) {
			t.Errorf("Query at %d: %v, %v", at, got, e)
		}
	}
}

func TestNew(t *testing.T) {
	for name, c := range map[string]struct {
		l    []api.Dim
		want bool
	}{
		"one":                       {line(10), true},
		"one, of one member":        {[]api.Dim{{Size: 1}}, true},
		"of 10000 members":          {[]api.Dim{{Size: 10000}}, true},
		"two":                       {field(), true},
		"four":                      {slices.Concat(field(), field()), true},
		"four divisors":             {[]api.Dim{{Size: 5, Div: []int{2, 4, 8, 10000 / 8 * 8}}}, true},
		"none":                      {nil, false},
		"none, empty":               {[]api.Dim{}, false},
		"five":                      {slices.Concat(field(), field(), line(5)), false},
		"of no members":             {[]api.Dim{{Size: 0}}, false},
		"of members below 0":        {[]api.Dim{{Size: -1}}, false},
		"of 10001 members":          {[]api.Dim{{Size: 10001}}, false},
		"five divisors":             {[]api.Dim{{Size: 5, Div: []int{2, 4, 8, 16, 32}}}, false},
		"a divisor 1":               {[]api.Dim{{Size: 5, Div: []int{1}}}, false},
		"a divisor 0":               {[]api.Dim{{Size: 5, Div: []int{0}}}, false},
		"a divisor below 0":         {[]api.Dim{{Size: 5, Div: []int{-2}}}, false},
		"a divisor of 10001":        {[]api.Dim{{Size: 5, Div: []int{10001}}}, false},
		"divisors alike":            {[]api.Dim{{Size: 5, Div: []int{2, 2}}}, false},
		"divisors that fall":        {[]api.Dim{{Size: 5, Div: []int{4, 2}}}, false},
		"no multiple":               {[]api.Dim{{Size: 5, Div: []int{2, 5}}}, false},
		"the first one is not":      {[]api.Dim{{Size: 0}, {Size: 5}}, false},
		"the last one is not":       {[]api.Dim{{Size: 5}, {Size: 5}, {Size: 5}, {Size: 0}}, false},
		"the last one's divisor":    {[]api.Dim{{Size: 5}, {Size: 5, Div: []int{3, 10}}}, false},
		"the least and the largest": {[]api.Dim{{Size: math.MinInt}, {Size: math.MaxInt}}, false},
	} {
		got := New(c.l)
		if (got != nil) != c.want || c.want != dims.Sound(c.l) {
			t.Errorf("%s: %v", name, got)
		}
	}
}

// A new cube has no entries: its tables have no rows, at any time, and a time is free.
func TestNewHasNone(t *testing.T) {
	c := New(field())
	stands(t, c, "a new one")
	for _, at := range []uint32{0, 1, 7, math.MaxUint32} {
		rows, e := c.Query(api.Query{Levels: []int{0, 0}, Low: []int{0, 0}, High: []int{100, 3}}, at)
		if len(rows) != 0 || e != api.OK {
			t.Errorf("Query at %d: %v, %v", at, rows, e)
		}
	}
	if e := c.Add(1, nil); e != api.OK {
		t.Errorf("Add: %v", e)
	}
}

// Cubes know nothing of one another.
func TestTwoCubes(t *testing.T) {
	l := line(10)
	a, b := laid(t, l, entry(1, fact(5, 3))), laid(t, l)
	stands(t, b, "the other one")
	if b.Add(1, []api.Fact{fact(6, 4)}) != api.OK || a.Replace(0, 10, nil) != api.OK {
		t.Error("Add, Replace")
	}
	stands(t, a, "the one")
	stands(t, b, "the other one", entry(1, fact(6, 4)))
}

// Fits.

// badKeys is keys that are not of members of field's dimensions.
func badKeys() map[string][]int {
	return map[string][]int{
		"none":                     nil,
		"empty":                    {},
		"too short":                {5},
		"too long":                 {5, 1, 0},
		"far too long":             make([]int, 300),
		"below 0":                  {-1, 1},
		"below 0, the last":        {5, -1},
		"at the size":              {100, 1},
		"at the size, the last":    {5, 3},
		"above the size":           {101, 1},
		"above the size, the last": {5, 99},
		"the least":                {math.MinInt, 1},
		"the greatest":             {5, math.MaxInt},
		"both":                     {-1, 3},
	}
}

func TestFits(t *testing.T) {
	c := New(field())
	for name, l := range map[string][]api.Fact{
		"none":            nil,
		"none, empty":     {},
		"the least key":   {fact(1, 0, 0)},
		"the greatest":    {fact(1, 99, 2)},
		"two":             {fact(1, 99, 0), fact(math.MinInt64, 0, 2)},
		"one key twice":   {fact(1, 5, 1), fact(1, 5, 1)},
		"any order":       {fact(3, 5, 1), fact(1, 7, 1), fact(2, 0, 0)},
		"numbers any":     {fact(math.MinInt64, 5, 1), fact(math.MaxInt64, 5, 1), fact(0, 5, 1)},
		"key with behind": {{Key: make([]int, 2, 9), V: 5}},
	} {
		if !c.Fits(l) {
			t.Errorf("%s: false", name)
		}
	}
	for name, key := range badKeys() {
		good, bad := fact(1, 5, 1), api.Fact{Key: key, V: 1}
		for place, l := range map[string][]api.Fact{"alone": {bad}, "the first": {bad, good, good}, "the midst": {good, bad, good}, "the last": {good, good, bad}} {
			if c.Fits(l) {
				t.Errorf("%s, %s: true", name, place)
			}
		}
	}
}

func TestFitsOfManyFacts(t *testing.T) {
	for n, want := range map[int]bool{0: true, 1: true, 2: true, 199: true, 200: true, 201: false, 202: false, 400: false, 10000: false} {
		c := New(line(50))
		if got := c.Fits(many(n, 0, 50)); got != want {
			t.Errorf("%d facts: %v", n, got)
		}
		for _, i := range []int{0, n / 2, n - 1} {
			if n == 0 {
				continue
			}
			l := many(n, 0, 50)
			l[i].Key = []int{50}
			if c.Fits(l) {
				t.Errorf("%d facts, one at the size, at %d", n, i)
			}
		}
	}
}

// Asked whether facts fit, a cube lays none.
func TestFitsLaysNothing(t *testing.T) {
	c := laid(t, line(10), entry(2, fact(1, 1)))
	c.Fits([]api.Fact{fact(2, 2)})
	c.Fits([]api.Fact{fact(2, 20)})
	stands(t, c, "as it was", entry(2, fact(1, 1)))
}

// Add.

func TestAdd(t *testing.T) {
	c := laid(t, line(10))
	for _, at := range []uint32{5, 9, 7, 1, 3, math.MaxUint32, 8, 2, math.MaxUint32 - 1, 1 << 31, 1<<31 - 1} {
		if e := c.Add(at, []api.Fact{fact(int64(at), 4), fact(-1, 3)}); e != api.OK {
			t.Errorf("Add at %d: %v", at, e)
		}
	}
	var want []api.Entry
	for _, at := range []uint32{1, 2, 3, 5, 7, 8, 9, 1<<31 - 1, 1 << 31, math.MaxUint32 - 1, math.MaxUint32} {
		want = append(want, entry(at, fact(int64(at), 4), fact(-1, 3)))
	}
	stands(t, c, "by their times", want...)
}

// Entries ahead of, between and behind those that are there.
func TestAddInItsPlace(t *testing.T) {
	for at := uint32(1); at <= 9; at++ {
		c := laid(t, line(10), entry(2, fact(2, 2)), entry(4, fact(4, 4)), entry(6, fact(6, 6)), entry(8, fact(8, 8)))
		want := []api.Entry{entry(2, fact(2, 2)), entry(4, fact(4, 4)), entry(6, fact(6, 6)), entry(8, fact(8, 8))}
		e := c.Add(at, []api.Fact{fact(1, 9), fact(0, 0), fact(1, 9)})
		if at%2 == 0 {
			if e != api.ErrAt {
				t.Errorf("at %d: %v", at, e)
			}
			stands(t, c, "as it was", want...)
			continue
		}
		if e != api.OK {
			t.Errorf("at %d: %v", at, e)
		}
		stands(t, c, "with it", slices.Insert(want, int(at/2), entry(at, fact(1, 9), fact(0, 0), fact(1, 9)))...)
	}
}

// An entry of no facts is there: its time is not free, and it counts.
func TestAddOfNoFacts(t *testing.T) {
	for name, none := range map[string][]api.Fact{"nil": nil, "empty": {}} {
		c := laid(t, line(10), entry(3, none...))
		if e := c.Add(3, none); e != api.ErrAt {
			t.Errorf("%s: again: %v", name, e)
		}
		if e := c.Add(3, []api.Fact{fact(1, 1)}); e != api.ErrAt {
			t.Errorf("%s: again, with facts: %v", name, e)
		}
		stands(t, c, name)
		if e := c.Add(2, []api.Fact{fact(1, 1)}); e != api.OK || c.Add(4, nil) != api.OK {
			t.Errorf("%s: beside it: %v", name, e)
		}
		stands(t, c, name, entry(2, fact(1, 1)))
	}
}

func TestAddOfManyFacts(t *testing.T) {
	c := laid(t, line(50), entry(1, many(200, 0, 50)...))
	stands(t, c, "200", entry(1, many(200, 0, 50)...))
	if e := c.Add(2, many(201, 0, 50)); e != api.ErrArg {
		t.Errorf("201: %v", e)
	}
	if e := c.Add(2, many(200, 7, 9)); e != api.OK {
		t.Errorf("200 more: %v", e)
	}
	stands(t, c, "400", entry(1, many(200, 0, 50)...), entry(2, many(200, 7, 9)...))
}

// Each key that is none of a member's is refused, wherever it stands.
func TestAddOfBadKeys(t *testing.T) {
	for name, key := range badKeys() {
		c := laid(t, field(), entry(3, fact(1, 5, 1)))
		good, bad := fact(1, 5, 1), api.Fact{Key: key, V: 1}
		for _, l := range [][]api.Fact{{bad}, {bad, good}, {good, bad}, {good, bad, good}} {
			if e := c.Add(5, l); e != api.ErrArg {
				t.Errorf("%s: %v", name, e)
			}
		}
		stands(t, c, name, entry(3, fact(1, 5, 1)))
		if e := c.Add(5, []api.Fact{good}); e != api.OK {
			t.Errorf("%s: behind it: %v", name, e)
		}
	}
}

func TestAddAtTimes(t *testing.T) {
	c := laid(t, line(10), entry(3, fact(1, 1)), entry(math.MaxUint32, fact(2, 2)), entry(5))
	for _, at := range []uint32{0, 3, 5, math.MaxUint32} {
		for _, l := range [][]api.Fact{nil, {fact(1, 1)}, {fact(9, 9)}} {
			if e := c.Add(at, l); e != api.ErrAt {
				t.Errorf("%d: %v", at, e)
			}
		}
	}
	stands(t, c, "as it was", entry(3, fact(1, 1)), entry(math.MaxUint32, fact(2, 2)))
}

// full is a cube of n entries, at the even times from 2 on; each third one has no facts, and none has any at member 49.
func full(t testing.TB, n int) (*Cube, []api.Entry) {
	t.Helper()
	var l []api.Entry
	for i := range n {
		e := entry(uint32(2*i + 2))
		if i%3 != 2 {
			e.Facts = []api.Fact{fact(int64(i), i%49)}
		}
		l = append(l, e)
	}
	return laid(t, line(50), l...), l
}

// withFacts is those entries that have facts: the others are not told by Entries.
func withFacts(l []api.Entry) []api.Entry {
	return slices.DeleteFunc(slices.Clone(l), func(e api.Entry) bool { return len(e.Facts) == 0 })
}

func TestAddOf5000(t *testing.T) {
	for _, at := range []uint32{1, 3, 5001, 9999, 10001, math.MaxUint32} {
		c, l := full(t, 4999)
		if e := c.Add(at, []api.Fact{fact(7, 7)}); e != api.OK {
			t.Errorf("the 5000th, at %d: %v", at, e)
		}
		l = append(l, entry(at, fact(7, 7)))
		slices.SortFunc(l, func(a, b api.Entry) int {
			if a.At < b.At {
				return -1
			}
			return 1
		})
		stands(t, c, "5000", withFacts(l)...)
		for _, next := range []uint32{7, 5555, 9997, 20001, math.MaxUint32 - 1} {
			if e := c.Add(next, nil); e != api.ErrLimit {
				t.Errorf("the 5001st, at %d: %v", next, e)
			}
			if e := c.Add(next, []api.Fact{fact(8, 8)}); e != api.ErrLimit {
				t.Errorf("the 5001st, at %d: %v", next, e)
			}
		}
		stands(t, c, "5000", withFacts(l)...)
	}
}

// Where several errors apply, the first that the chapter names is told.
func TestAddOrderOfErrors(t *testing.T) {
	c := laid(t, line(10), entry(3, fact(1, 1)))
	all, l := full(t, 5000)
	bad, long := []api.Fact{fact(1, 50)}, many(201, 0, 5)
	for name, x := range map[string]struct {
		c    *Cube
		at   uint32
		l    []api.Fact
		want api.Errno
	}{
		"a bad key, at 0":                   {c, 0, bad, api.ErrArg},
		"a bad key, at a time that is":      {c, 3, bad, api.ErrArg},
		"too many, at 0":                    {c, 0, long, api.ErrArg},
		"too many, at a time that is":       {c, 3, long, api.ErrArg},
		"a bad key, full":                   {all, 3, bad, api.ErrArg},
		"too many, full":                    {all, 3, long, api.ErrArg},
		"at 0, full":                        {all, 0, nil, api.ErrAt},
		"at a time that is, full":           {all, 2, nil, api.ErrAt},
		"at a time of none, full":           {all, 6, nil, api.ErrAt},
		"a bad key, at 0, full":             {all, 0, bad, api.ErrArg},
		"a bad key, at one that is, full":   {all, 2, bad, api.ErrArg},
		"too many, at the last, full":       {all, 10000, long, api.ErrArg},
		"at the last one's time, full":      {all, 10000, nil, api.ErrAt},
		"behind the last one's time, full":  {all, 10001, nil, api.ErrLimit},
		"ahead of the first one's time too": {all, 1, nil, api.ErrLimit},
	} {
		if e := x.c.Add(x.at, x.l); e != x.want {
			t.Errorf("%s: %v, not %v", name, e, x.want)
		}
	}
	stands(t, c, "the small one", entry(3, fact(1, 1)))
	stands(t, all, "the full one", withFacts(l)...)
}

// Query.

func TestQueryAtTimes(t *testing.T) {
	c := laid(t, line(10), entry(3, fact(1, 4)), entry(5, fact(10, 4), fact(100, 6)), entry(8), entry(math.MaxUint32, fact(1000, 4)))
	none, one, two, all := map[int]int64{}, map[int]int64{4: 1}, map[int]int64{4: 11, 6: 100}, map[int]int64{4: 1011, 6: 100}
	for at, want := range map[uint32]map[int]int64{0: none, 1: none, 2: none, 3: one, 4: one, 5: two, 6: two, 7: two, 8: two, 9: two, 1 << 31: two, math.MaxUint32 - 1: two, math.MaxUint32: all} {
		if got := sums(t, c, whole(10), at); !reflect.DeepEqual(got, want) {
			t.Errorf("at %d: %v, not %v", at, got, want)
		}
	}
}

// In whichever order entries are laid, tables are those of their times.
func TestQueryOfEntriesLaidInAnyOrder(t *testing.T) {
	facts := map[uint32][]api.Fact{1: {fact(1, 1)}, 2: {fact(2, 1), fact(2, 2)}, 3: nil, 4: {fact(4, 1)}, 5: {fact(5, 3)}}
	var orders [][]uint32
	var more func(l, left []uint32)
	more = func(l, left []uint32) {
		if len(left) == 0 {
			orders = append(orders, l)
		}
		for i, at := range left {
			more(append(slices.Clone(l), at), slices.Delete(slices.Clone(left), i, i+1))
		}
	}
	more(nil, []uint32{1, 2, 3, 4, 5})
	if len(orders) != 120 {
		t.Fatal(len(orders))
	}
	want := []map[int]int64{{}, {1: 1}, {1: 3, 2: 2}, {1: 3, 2: 2}, {1: 7, 2: 2}, {1: 7, 2: 2, 3: 5}, {1: 7, 2: 2, 3: 5}}
	for _, order := range orders {
		c := laid(t, line(10))
		for _, at := range order {
			if c.Add(at, facts[at]) != api.OK {
				t.Errorf("%v: Add", order)
			}
		}
		for at := range want {
			if got := sums(t, c, whole(10), uint32(at)); !reflect.DeepEqual(got, want[at]) {
				t.Errorf("%v: at %d: %v", order, at, got)
			}
		}
		stands(t, c, "by times", entry(1, facts[1]...), entry(2, facts[2]...), entry(4, facts[4]...), entry(5, facts[5]...))
	}
}

// A table is told at levels, of a box, with the numbers' count, sum, least and greatest.
func TestQueryAtLevelsOfBoxes(t *testing.T) {
	c := laid(t, field(),
		entry(4, fact(5, 12, 0), fact(-3, 19, 2), fact(7, 60, 1)),
		entry(2, fact(9, 12, 0), fact(1, 99, 2)))
	for name, x := range map[string]struct {
		q    api.Query
		at   uint32
		want []api.Row
	}{
		"members": {api.Query{Levels: []int{0, 0}, Low: []int{0, 0}, High: []int{100, 3}}, 4, []api.Row{
			{Key: []int{12, 0}, Cell: api.Cell{N: 2, Sum: 14, Min: 5, Max: 9}},
			{Key: []int{19, 2}, Cell: api.Cell{N: 1, Sum: -3, Min: -3, Max: -3}},
			{Key: []int{60, 1}, Cell: api.Cell{N: 1, Sum: 7, Min: 7, Max: 7}},
			{Key: []int{99, 2}, Cell: api.Cell{N: 1, Sum: 1, Min: 1, Max: 1}}}},
		"all as one": {api.Query{Levels: []int{3, 1}, Low: []int{0, 0}, High: []int{100, 3}}, 4, []api.Row{
			{Key: []int{0, 0}, Cell: api.Cell{N: 5, Sum: 19, Min: -3, Max: 9}}}},
		"by tens, ahead": {api.Query{Levels: []int{1, 1}, Low: []int{0, 0}, High: []int{100, 3}}, 3, []api.Row{
			{Key: []int{1, 0}, Cell: api.Cell{N: 1, Sum: 9, Min: 9, Max: 9}},
			{Key: []int{9, 0}, Cell: api.Cell{N: 1, Sum: 1, Min: 1, Max: 1}}}},
		"a box": {api.Query{Levels: []int{2, 0}, Low: []int{12, 0}, High: []int{61, 2}}, 4, []api.Row{
			{Key: []int{0, 0}, Cell: api.Cell{N: 2, Sum: 14, Min: 5, Max: 9}},
			{Key: []int{1, 1}, Cell: api.Cell{N: 1, Sum: 7, Min: 7, Max: 7}}}},
		"a box with nothing in it": {api.Query{Levels: []int{0, 0}, Low: []int{50, 1}, High: []int{50, 1}}, 4, nil},
	} {
		got, e := c.Query(x.q, x.at)
		if e != api.OK || !areRows(got, x.want) {
			t.Errorf("%s: %v, %v", name, got, e)
		}
	}
}

func TestQueryErrors(t *testing.T) {
	c := laid(t, field(), entry(3, fact(1, 5, 1)))
	for name, x := range map[string]struct {
		q    api.Query
		want api.Errno
	}{
		"no levels":                     {api.Query{Low: []int{0, 0}, High: []int{100, 3}}, api.ErrLevel},
		"too few levels":                {api.Query{Levels: []int{0}, Low: []int{0, 0}, High: []int{100, 3}}, api.ErrLevel},
		"too many levels":               {api.Query{Levels: []int{0, 0, 0}, Low: []int{0, 0}, High: []int{100, 3}}, api.ErrLevel},
		"a level below 0":               {api.Query{Levels: []int{-1, 0}, Low: []int{0, 0}, High: []int{100, 3}}, api.ErrLevel},
		"a level above the last":        {api.Query{Levels: []int{4, 0}, Low: []int{0, 0}, High: []int{100, 3}}, api.ErrLevel},
		"a level above the second's":    {api.Query{Levels: []int{3, 2}, Low: []int{0, 0}, High: []int{100, 3}}, api.ErrLevel},
		"no box":                        {api.Query{Levels: []int{0, 0}}, api.ErrQuery},
		"no high":                       {api.Query{Levels: []int{0, 0}, Low: []int{0, 0}}, api.ErrQuery},
		"a low too short":               {api.Query{Levels: []int{0, 0}, Low: []int{0}, High: []int{100, 3}}, api.ErrQuery},
		"a low below 0":                 {api.Query{Levels: []int{0, 0}, Low: []int{-1, 0}, High: []int{100, 3}}, api.ErrQuery},
		"a high above the size":         {api.Query{Levels: []int{0, 0}, Low: []int{0, 0}, High: []int{101, 3}}, api.ErrQuery},
		"low above high":                {api.Query{Levels: []int{0, 0}, Low: []int{5, 0}, High: []int{4, 3}}, api.ErrQuery},
		"both":                          {api.Query{Levels: []int{9, 0}, Low: []int{-1, 0}, High: []int{100, 3}}, api.ErrLevel},
		"nothing at all":                {api.Query{}, api.ErrLevel},
		"the least level, the greatest": {api.Query{Levels: []int{math.MinInt, math.MaxInt}, Low: []int{0, 0}, High: []int{100, 3}}, api.ErrLevel},
	} {
		for _, at := range []uint32{0, 2, 3, 4, math.MaxUint32} {
			if rows, e := c.Query(x.q, at); e != x.want || len(rows) != 0 {
				t.Errorf("%s, at %d: %v, %v", name, at, rows, e)
			}
		}
	}
	if rows, e := New(field()).Query(api.Query{}, 5); e != api.ErrLevel || len(rows) != 0 {
		t.Errorf("of a new one: %v, %v", rows, e)
	}
}

// 500 rows are told, one more is not; at the time ahead they still are.
func TestQueryOfManyRows(t *testing.T) {
	c := laid(t, line(1000), entry(1, many(200, 0, 200)...), entry(3, many(200, 300, 500)...), entry(5, many(100, 700, 800)...), entry(7, fact(1, 999)))
	for at, want := range map[uint32]int{0: 0, 1: 200, 2: 200, 3: 400, 4: 400, 5: 500, 6: 500} {
		if rows, e := c.Query(whole(1000), at); e != api.OK || len(rows) != want {
			t.Errorf("at %d: %d rows, %v", at, len(rows), e)
		}
	}
	for _, at := range []uint32{7, 8, math.MaxUint32} {
		if rows, e := c.Query(whole(1000), at); e != api.ErrMany || len(rows) != 0 {
			t.Errorf("at %d: %d rows, %v", at, len(rows), e)
		}
		if rows, e := c.Query(whole(999), at); e != api.OK || len(rows) != 500 {
			t.Errorf("of a box, at %d: %d rows, %v", at, len(rows), e)
		}
		if rows, e := c.Query(api.Query{Levels: []int{1}, Low: []int{0}, High: []int{1000}}, at); e != api.OK || len(rows) != 101 {
			t.Errorf("by fives, at %d: %d rows, %v", at, len(rows), e)
		}
	}
}

// Sums that go round are told, too: facts that fit always make a table.
func TestQueryOfGreatNumbers(t *testing.T) {
	c := laid(t, line(5), entry(2, fact(math.MaxInt64, 1), fact(math.MaxInt64, 1)), entry(1, fact(math.MinInt64, 1), fact(math.MaxInt64, 2)))
	got, e := c.Query(whole(5), 2)
	want := []api.Row{
		{Key: []int{1}, Cell: api.Cell{N: 3, Sum: math.MaxInt64 - 1, Min: math.MinInt64, Max: math.MaxInt64}},
		{Key: []int{2}, Cell: api.Cell{N: 1, Sum: math.MaxInt64, Min: math.MaxInt64, Max: math.MaxInt64}}}
	if e != api.OK || !areRows(got, want) {
		t.Errorf("%v, %v", got, e)
	}
}

// Asked, a cube stays as it is.
func TestQueryChangesNothing(t *testing.T) {
	c := laid(t, line(10), entry(3, fact(1, 4)), entry(5, fact(2, 4), fact(3, 6)))
	for at := range uint32(7) {
		c.Query(whole(10), at)
		c.Query(api.Query{}, at)
		c.Entries(int(at), 5)
		stands(t, c, "as it was", entry(3, fact(1, 4)), entry(5, fact(2, 4), fact(3, 6)))
	}
}

// Entries.

func TestEntries(t *testing.T) {
	a, b, d, e := fact(1, 10, 2), fact(2, 20, 0), fact(3, 30, 1), fact(4, 10, 0)
	c := laid(t, field(), entry(7, b, a, e, b), entry(3, a), entry(5), entry(9, d, b))
	all := []api.Entry{entry(3, a), entry(7, b, a, e, b), entry(9, d, b)}
	for name, x := range map[string]struct {
		from, to int
		want     []api.Entry
	}{
		"all":                              {0, 100, all},
		"just all":                         {10, 31, all},
		"from below 0":                     {-1, 100, all},
		"from far below 0":                 {math.MinInt, 100, all},
		"to above the size":                {0, 101, all},
		"to far above the size":            {10, math.MaxInt, all},
		"any":                              {math.MinInt, math.MaxInt, all},
		"of one entry all":                 {30, 40, []api.Entry{entry(9, d)}},
		"one member":                       {10, 11, []api.Entry{entry(3, a), entry(7, a, e)}},
		"up to a fact's":                   {0, 20, []api.Entry{entry(3, a), entry(7, a, e)}},
		"from a fact's on":                 {20, 100, []api.Entry{entry(7, b, b), entry(9, d, b)}},
		"from behind a fact's":             {21, 100, []api.Entry{entry(9, d)}},
		"up to behind a fact's":            {0, 11, []api.Entry{entry(3, a), entry(7, a, e)}},
		"the second place does not count":  {0, 3, nil},
		"none: ahead of all":               {0, 10, nil},
		"none: between":                    {11, 20, nil},
		"none: behind all":                 {31, 100, nil},
		"none: above the size":             {100, math.MaxInt, nil},
		"none: below 0":                    {math.MinInt, 0, nil},
		"none: alike, at a fact's":         {20, 20, nil},
		"none: falling":                    {31, 10, nil},
		"none: falling by one":             {21, 20, nil},
		"none: the greatest and the least": {math.MaxInt, math.MinInt, nil},
		"none: the least twice":            {math.MinInt, math.MinInt, nil},
		"none: the greatest twice":         {math.MaxInt, math.MaxInt, nil},
	} {
		if got := c.Entries(x.from, x.to); !areEntries(got, x.want) {
			t.Errorf("%s: %v, not %v", name, got, x.want)
		}
	}
}

// Each entry that is told has facts.
func TestEntriesTellNoEmptyOnes(t *testing.T) {
	c := laid(t, line(10), entry(1), entry(2, fact(1, 4)), entry(3), entry(4, fact(1, 6)), entry(5))
	for from := -1; from <= 11; from++ {
		for to := -1; to <= 11; to++ {
			var want []api.Entry
			if from <= 4 && 4 < to {
				want = append(want, entry(2, fact(1, 4)))
			}
			if from <= 6 && 6 < to {
				want = append(want, entry(4, fact(1, 6)))
			}
			if got := c.Entries(from, to); !areEntries(got, want) || len(got) != len(want) {
				t.Errorf("%d to %d: %v", from, to, got)
			}
		}
	}
}

// Replace.

// some is a cube of one dimension of 10 members, whose entries have facts on both sides of 5, one has none, and one has facts of one side alone.
func some(t testing.TB) *Cube {
	t.Helper()
	return laid(t, line(10),
		entry(10, fact(1, 2), fact(2, 7), fact(3, 4)),
		entry(20),
		entry(30, fact(4, 8), fact(5, 9)),
		entry(40, fact(6, 0), fact(7, 4)))
}

// untouched says whether it is as it was, and that what had no facts is there, and that nothing else is.
func untouched(t testing.TB, c *Cube, what string) {
	t.Helper()
	stands(t, c, what, entry(10, fact(1, 2), fact(2, 7), fact(3, 4)), entry(30, fact(4, 8), fact(5, 9)), entry(40, fact(6, 0), fact(7, 4)))
	isThere(t, c, what, []uint32{10, 20, 30, 40}, []uint32{5, 15, 25, 35, 45})
}

// isThere asks, of times, whether there are entries. It lays some: a cube is asked at last, or of times that are there alone.
func isThere(t testing.TB, c *Cube, what string, there, free []uint32) {
	t.Helper()
	for _, at := range there {
		if e := c.Add(at, nil); e != api.ErrAt {
			t.Errorf("%s: no entry at %d: %v", what, at, e)
		}
	}
	for _, at := range free {
		if e := c.Add(at, nil); e != api.OK {
			t.Errorf("%s: an entry at %d: %v", what, at, e)
		}
	}
}

func TestReplace(t *testing.T) {
	for name, x := range map[string]struct {
		from, to    int
		l           []api.Entry
		want        []api.Entry
		there, free []uint32
	}{
		"nothing, by nothing": {5, 7, nil,
			[]api.Entry{entry(10, fact(1, 2), fact(2, 7), fact(3, 4)), entry(30, fact(4, 8), fact(5, 9)), entry(40, fact(6, 0), fact(7, 4))},
			[]uint32{10, 20, 30, 40}, []uint32{15}},
		"some, by nothing": {0, 5, nil,
			[]api.Entry{entry(10, fact(2, 7)), entry(30, fact(4, 8), fact(5, 9))},
			[]uint32{10, 20, 30}, []uint32{40}},
		"all, by nothing": {0, 10, nil, nil,
			[]uint32{20}, []uint32{10, 30, 40}},
		"all, far beyond": {math.MinInt, math.MaxInt, []api.Entry{}, nil,
			[]uint32{20}, []uint32{10, 30, 40}},
		"one fact, by nothing": {7, 8, nil,
			[]api.Entry{entry(10, fact(1, 2), fact(3, 4)), entry(30, fact(4, 8), fact(5, 9)), entry(40, fact(6, 0), fact(7, 4))},
			[]uint32{10, 20, 30, 40}, []uint32{11}},
		"an empty range": {5, 5, nil,
			[]api.Entry{entry(10, fact(1, 2), fact(2, 7), fact(3, 4)), entry(30, fact(4, 8), fact(5, 9)), entry(40, fact(6, 0), fact(7, 4))},
			[]uint32{10, 20, 30, 40}, nil},
		"a falling range": {9, 0, []api.Entry{entry(15), entry(20)},
			[]api.Entry{entry(10, fact(1, 2), fact(2, 7), fact(3, 4)), entry(30, fact(4, 8), fact(5, 9)), entry(40, fact(6, 0), fact(7, 4))},
			[]uint32{10, 20, 30, 40}, []uint32{15}},
		"at times that are there": {0, 5, []api.Entry{entry(10, fact(11, 4), fact(12, 2)), entry(20, fact(13, 1)), entry(30, fact(14, 0)), entry(40, fact(15, 3))},
			[]api.Entry{entry(10, fact(2, 7), fact(11, 4), fact(12, 2)), entry(20, fact(13, 1)), entry(30, fact(4, 8), fact(5, 9), fact(14, 0)), entry(40, fact(15, 3))},
			[]uint32{10, 20, 30, 40}, nil},
		"ahead of all": {0, 5, []api.Entry{entry(1, fact(11, 4)), entry(9, fact(12, 3))},
			[]api.Entry{entry(1, fact(11, 4)), entry(9, fact(12, 3)), entry(10, fact(2, 7)), entry(30, fact(4, 8), fact(5, 9))},
			[]uint32{1, 9, 10, 20, 30}, []uint32{2, 40}},
		"between": {0, 5, []api.Entry{entry(11, fact(11, 4)), entry(25, fact(12, 3)), entry(35, fact(13, 3))},
			[]api.Entry{entry(10, fact(2, 7)), entry(11, fact(11, 4)), entry(25, fact(12, 3)), entry(30, fact(4, 8), fact(5, 9)), entry(35, fact(13, 3))},
			[]uint32{10, 11, 20, 25, 30, 35}, []uint32{40}},
		"behind all": {0, 5, []api.Entry{entry(41, fact(11, 4)), entry(math.MaxUint32, fact(12, 3))},
			[]api.Entry{entry(10, fact(2, 7)), entry(30, fact(4, 8), fact(5, 9)), entry(41, fact(11, 4)), entry(math.MaxUint32, fact(12, 3))},
			[]uint32{10, 20, 30, 41, math.MaxUint32}, []uint32{40}},
		"behind what is left, but not what was": {0, 5, []api.Entry{entry(35, fact(11, 4))},
			[]api.Entry{entry(10, fact(2, 7)), entry(30, fact(4, 8), fact(5, 9)), entry(35, fact(11, 4))},
			[]uint32{10, 20, 30, 35}, []uint32{40}},
		"everywhere": {5, 10, []api.Entry{entry(5, fact(11, 9)), entry(10, fact(12, 5), fact(13, 6)), entry(15, fact(14, 5)), entry(20, fact(15, 5)), entry(30, fact(16, 5)), entry(31, fact(17, 5)), entry(40, fact(18, 5)), entry(50, fact(19, 5))},
			[]api.Entry{entry(5, fact(11, 9)), entry(10, fact(1, 2), fact(3, 4), fact(12, 5), fact(13, 6)), entry(15, fact(14, 5)), entry(20, fact(15, 5)), entry(30, fact(16, 5)), entry(31, fact(17, 5)), entry(40, fact(6, 0), fact(7, 4), fact(18, 5)), entry(50, fact(19, 5))},
			[]uint32{5, 10, 15, 20, 30, 31, 40, 50}, []uint32{6}},
		"no facts where there is an entry": {5, 7, []api.Entry{entry(10), entry(20), entry(40)},
			[]api.Entry{entry(10, fact(1, 2), fact(2, 7), fact(3, 4)), entry(30, fact(4, 8), fact(5, 9)), entry(40, fact(6, 0), fact(7, 4))},
			[]uint32{10, 20, 30, 40}, nil},
		"no facts where there is none": {5, 7, []api.Entry{entry(5), entry(15), entry(45)},
			[]api.Entry{entry(10, fact(1, 2), fact(2, 7), fact(3, 4)), entry(30, fact(4, 8), fact(5, 9)), entry(40, fact(6, 0), fact(7, 4))},
			[]uint32{10, 20, 30, 40}, []uint32{5, 15, 45}},
		"no facts where all go": {0, 5, []api.Entry{entry(10), entry(20), entry(40)},
			[]api.Entry{entry(10, fact(2, 7)), entry(30, fact(4, 8), fact(5, 9))},
			[]uint32{10, 20, 30}, []uint32{40}},
		"facts where all go": {8, 10, []api.Entry{entry(30, fact(11, 8))},
			[]api.Entry{entry(10, fact(1, 2), fact(2, 7), fact(3, 4)), entry(30, fact(11, 8)), entry(40, fact(6, 0), fact(7, 4))},
			[]uint32{10, 20, 30, 40}, nil},
		"what goes comes again": {4, 8, []api.Entry{entry(10, fact(2, 7), fact(3, 4)), entry(40, fact(7, 4))},
			[]api.Entry{entry(10, fact(1, 2), fact(2, 7), fact(3, 4)), entry(30, fact(4, 8), fact(5, 9)), entry(40, fact(6, 0), fact(7, 4))},
			[]uint32{10, 20, 30, 40}, nil},
		"the range's ends": {2, 5, []api.Entry{entry(20, fact(11, 2), fact(12, 4))},
			[]api.Entry{entry(10, fact(2, 7)), entry(20, fact(11, 2), fact(12, 4)), entry(30, fact(4, 8), fact(5, 9)), entry(40, fact(6, 0))},
			[]uint32{10, 20, 30, 40}, nil},
		"below 0 and above the size": {-5, 50, []api.Entry{entry(15, fact(11, 0), fact(12, 9))},
			[]api.Entry{entry(15, fact(11, 0), fact(12, 9))},
			[]uint32{15, 20}, []uint32{10, 30, 40}},
	} {
		c := some(t)
		if e := c.Replace(x.from, x.to, x.l); e != api.OK {
			t.Errorf("%s: %v", name, e)
		}
		stands(t, c, name, x.want...)
		isThere(t, c, name, x.there, x.free)
	}
}

// A fact is of the range by its first place, whatever the others are.
func TestReplaceGoesByTheFirstPlace(t *testing.T) {
	c := laid(t, field(), entry(3, fact(1, 2, 0), fact(2, 0, 2), fact(3, 1, 1), fact(4, 50, 0)))
	if e := c.Replace(1, 3, []api.Entry{entry(3, fact(5, 1, 0), fact(6, 2, 2))}); e != api.OK {
		t.Error(e)
	}
	stands(t, c, "by the first", entry(3, fact(2, 0, 2), fact(4, 50, 0), fact(5, 1, 0), fact(6, 2, 2)))
	if e := c.Replace(1, 3, []api.Entry{entry(3, fact(5, 0, 1))}); e != api.ErrArg {
		t.Error(e)
	}
}

func TestReplaceErrArg(t *testing.T) {
	for name, x := range map[string]struct {
		from, to int
		l        []api.Entry
	}{
		"a time 0":                       {0, 10, []api.Entry{entry(0)}},
		"a time 0, with facts":           {0, 10, []api.Entry{entry(0, fact(1, 1))}},
		"a time 0, then others":          {0, 10, []api.Entry{entry(0), entry(10)}},
		"times alike":                    {0, 10, []api.Entry{entry(10), entry(10)}},
		"times alike, with facts":        {0, 10, []api.Entry{entry(11, fact(1, 1)), entry(11, fact(1, 1))}},
		"the greatest time twice":        {0, 10, []api.Entry{entry(math.MaxUint32), entry(math.MaxUint32)}},
		"times that fall":                {0, 10, []api.Entry{entry(20), entry(10)}},
		"times that fall to 0":           {0, 10, []api.Entry{entry(20), entry(0)}},
		"times that fall by one":         {0, 10, []api.Entry{entry(20), entry(19), entry(30)}},
		"times that rise, then fall":     {0, 10, []api.Entry{entry(10), entry(20), entry(15)}},
		"times that fall below the last": {0, 10, []api.Entry{entry(20), entry(30), entry(29), entry(31)}},
		"times that go round":            {0, 10, []api.Entry{entry(math.MaxUint32), entry(1)}},
		"a bad key":                      {0, 50, []api.Entry{entry(10, fact(1, 10))}},
		"a bad key below 0":              {-5, 50, []api.Entry{entry(10, fact(1, -1))}},
		"a key too long":                 {0, 10, []api.Entry{entry(10, fact(1, 1, 1))}},
		"a key of no places":             {0, 10, []api.Entry{entry(10, fact(1))}},
		"a bad key, the last":            {0, 50, []api.Entry{entry(10, fact(1, 1)), entry(20), entry(30, fact(1, 2), fact(1, 10))}},
		"201 facts":                      {0, 10, []api.Entry{entry(50, many(201, 0, 10)...)}},
		"201 facts, the last":            {0, 10, []api.Entry{entry(50), entry(60, many(201, 0, 10)...)}},
		"a fact below the range":         {3, 5, []api.Entry{entry(10, fact(1, 2))}},
		"a fact far below the range":     {9, 10, []api.Entry{entry(10, fact(1, 0))}},
		"a fact at the range's end":      {3, 5, []api.Entry{entry(10, fact(1, 5))}},
		"a fact above the range":         {3, 5, []api.Entry{entry(10, fact(1, 6))}},
		"a fact far above the range":     {0, 1, []api.Entry{entry(10, fact(1, 9))}},
		"the last fact out of the range": {3, 5, []api.Entry{entry(10, fact(1, 3), fact(1, 4)), entry(20, fact(1, 4), fact(1, 5))}},
		"the first fact out of it":       {3, 5, []api.Entry{entry(10, fact(1, 2), fact(1, 4)), entry(20, fact(1, 4), fact(1, 4))}},
		"a fact, an empty range":         {5, 5, []api.Entry{entry(10, fact(1, 5))}},
		"a fact, a falling range":        {6, 4, []api.Entry{entry(10, fact(1, 5))}},
		"a fact, a range of all falling": {math.MaxInt, math.MinInt, []api.Entry{entry(10, fact(1, 5))}},
		"a fact, a range below 0":        {math.MinInt, 0, []api.Entry{entry(10, fact(1, 0))}},
		"a fact, a range above the size": {10, math.MaxInt, []api.Entry{entry(10, fact(1, 9))}},
	} {
		c := some(t)
		if e := c.Replace(x.from, x.to, x.l); e != api.ErrArg {
			t.Errorf("%s: %v", name, e)
		}
		untouched(t, c, name)
	}
}

// Where several errors apply, ErrArg is told: also where entries ahead of the wrong one are too many.
func TestReplaceOrderOfErrors(t *testing.T) {
	c, l := full(t, 5000)
	wrong := map[string]api.Entry{"a time 0": entry(0), "a bad key": entry(20000, fact(1, 50)), "201 facts": entry(20000, many(201, 0, 5)...), "out of the range": entry(20000, fact(1, 10)), "a time that falls": entry(3)}
	for name, last := range wrong {
		if e := c.Replace(0, 10, []api.Entry{entry(1, fact(1, 1)), entry(3, fact(1, 1)), entry(19999, many(200, 0, 10)...), last}); e != api.ErrArg {
			t.Errorf("%s: %v", name, e)
		}
	}
	stands(t, c, "as it was", withFacts(l)...)
}

// 5000 entries fit just so, one more doesn't.
func TestReplaceAtTheLimitOfEntries(t *testing.T) {
	for name, x := range map[string]struct {
		n    int // entries that are there
		from int
		to   int
		l    []api.Entry
		want api.Errno
	}{
		"nothing comes, of 4999":                  {4999, 49, 50, nil, api.OK},
		"nothing comes, of 5000":                  {5000, 49, 50, nil, api.OK},
		"one comes, of 4999":                      {4999, 49, 50, onesAt(1, 49), api.OK},
		"one comes, of 5000":                      {5000, 49, 50, onesAt(1, 49), api.ErrLimit},
		"one comes behind all, of 5000":           {5000, 49, 50, []api.Entry{entry(20000, fact(1, 49))}, api.ErrLimit},
		"one comes in the midst, of 5000":         {5000, 49, 50, []api.Entry{entry(5001, fact(1, 49))}, api.ErrLimit},
		"two come, of 4998":                       {4998, 49, 50, []api.Entry{entry(1, fact(1, 49)), entry(20000, fact(1, 49))}, api.OK},
		"two come, of 4999":                       {4999, 49, 50, []api.Entry{entry(1, fact(1, 49)), entry(20000, fact(1, 49))}, api.ErrLimit},
		"no facts at free times, of 5000":         {5000, 49, 49, []api.Entry{entry(1), entry(3), entry(20001)}, api.OK},
		"no facts and one, of 5000":               {5000, 49, 50, []api.Entry{entry(1), entry(3, fact(1, 49)), entry(20001)}, api.ErrLimit},
		"facts at times that are, of 5000":        {5000, 49, 50, []api.Entry{entry(2, fact(1, 49)), entry(10000, fact(1, 49))}, api.OK},
		"facts at a time of none, of 5000":        {5000, 49, 50, []api.Entry{entry(6, fact(1, 49))}, api.OK},
		"all that have facts go, of 5000":         {5000, 0, 50, nil, api.OK},
		"68 for 68, of 5000":                      {5000, 48, 49, onesAt(68, 48), api.OK},
		"69 for 68, of 5000":                      {5000, 48, 49, onesAt(69, 48), api.ErrLimit},
		"as many as there were, 1666 of no facts": {5000, 0, 50, onesAt(5000-1666, 7), api.OK},
		"one more, 1666 of no facts":              {5000, 0, 50, onesAt(5000-1665, 7), api.ErrLimit},
		"5000 on none":                            {0, 0, 50, onesAt(5000, 7), api.OK},
		"5001 on none":                            {0, 0, 50, onesAt(5001, 7), api.ErrLimit},
		"far too many":                            {0, 7, 8, onesAt(20000, 7), api.ErrLimit},
		"5000, and 1000 of no facts":              {0, 7, 8, append(onesAt(5000, 7), nonesAt(1000)...), api.OK},
		"5001, and 1000 of no facts":              {0, 7, 8, append(onesAt(5001, 7), nonesAt(1000)...), api.ErrLimit},
	} {
		c, l := full(t, x.n)
		m := newModel(line(50)) // it holds that the table says what the chapter says
		for _, e := range l {
			m.add(e.At, e.Facts)
		}
		e := c.Replace(x.from, x.to, x.l)
		if e != x.want || m.replace(x.from, x.to, x.l) != x.want {
			t.Errorf("%s: %v", name, e)
		}
		stands(t, c, name, m.told(math.MinInt, math.MaxInt)...)
		for _, at := range []uint32{5, 20003, 20004} { // how many there are is seen by what may be added
			want := m.add(at, nil)
			if e := c.Add(at, nil); e != want {
				t.Errorf("%s: Add at %d: %v, not %v", name, at, e, want)
			}
		}
	}
}

// onesAt is n entries of one fact at a member, at odd times: full has the even ones.
func onesAt(n, member int) []api.Entry {
	var l []api.Entry
	for i := range n {
		l = append(l, entry(uint32(2*i+1), fact(int64(-i), member)))
	}
	return l
}

// nonesAt is n entries of no facts behind all others.
func nonesAt(n int) []api.Entry {
	var l []api.Entry
	for i := range n {
		l = append(l, entry(uint32(50001+i)))
	}
	return l
}

// 200 facts fit in an entry just so, one more doesn't. What goes makes room.
func TestReplaceAtTheLimitOfFacts(t *testing.T) {
	for name, x := range map[string]struct {
		left, gone, come int
		want             api.Errno
	}{
		"none come, of 200":         {200, 0, 0, api.OK},
		"one comes, of 199":         {199, 0, 1, api.OK},
		"one comes, of 200":         {200, 0, 1, api.ErrLimit},
		"one for one":               {199, 1, 1, api.OK},
		"two for one":               {199, 1, 2, api.ErrLimit},
		"200 for none":              {0, 0, 200, api.OK},
		"200 for 200":               {0, 200, 200, api.OK},
		"200 for 199, one is left":  {1, 199, 200, api.ErrLimit},
		"199 for 199, one is left":  {1, 199, 199, api.OK},
		"100 for 100, 100 are left": {100, 100, 100, api.OK},
		"101 for 100, 100 are left": {100, 100, 101, api.ErrLimit},
		"200 for 50, 150 are left":  {150, 50, 200, api.ErrLimit},
	} {
		was := entry(5, append(many(x.left, 0, 5), many(x.gone, 5, 10)...)...)
		behind := entry(9, fact(1, 1), fact(2, 9))
		c := laid(t, line(10), was, behind, entry(1))
		come := many(x.come, 5, 10)
		e := c.Replace(5, 10, []api.Entry{entry(3, fact(3, 5)), entry(5, come...), entry(9, fact(4, 6))})
		want := []api.Entry{entry(5, was.Facts...), behind}
		if x.want == api.OK {
			want = []api.Entry{entry(3, fact(3, 5)), entry(5, append(many(x.left, 0, 5), come...)...), entry(9, fact(1, 1), fact(4, 6))}
		}
		if e != x.want {
			t.Errorf("%s: %v", name, e)
		}
		want = withFacts(want)
		stands(t, c, name, want...)
		if e := c.Add(3, nil); (e == api.ErrAt) != (x.want == api.OK) {
			t.Errorf("%s: Add at 3: %v", name, e)
		}
	}
}

// A refused entry, be it the first or the last, leaves nothing behind of those ahead of it.
func TestRefusedByAnyEntry(t *testing.T) {
	for i := range 6 {
		c := laid(t, line(10), entry(10, many(200, 0, 5)...), entry(20, many(200, 0, 5)...), entry(30, many(200, 0, 5)...))
		l := []api.Entry{entry(5, fact(1, 9)), entry(15, fact(2, 9)), entry(25, fact(3, 9)), entry(35, fact(4, 9)), entry(45, fact(5, 9)), entry(55, fact(6, 9))}
		l[i] = entry(l[i].At, fact(7, 9))
		at := []uint32{10, 10, 20, 30, 30, 30}[i]
		l = append(l, entry(at, fact(8, 9)))
		slices.SortFunc(l, func(a, b api.Entry) int { return int(a.At) - int(b.At) })
		if e := c.Replace(5, 10, l); e != api.ErrLimit {
			t.Errorf("%d: %v", i, e)
		}
		stands(t, c, "as it was", entry(10, many(200, 0, 5)...), entry(20, many(200, 0, 5)...), entry(30, many(200, 0, 5)...))
		if e := c.Replace(5, 10, []api.Entry{entry(5, fact(1, 9)), entry(35, fact(1, 9))}); e != api.OK {
			t.Errorf("%d: Replace behind it: %v", i, e)
		}
		if e := c.Add(15, []api.Fact{fact(2, 9)}); e != api.OK {
			t.Errorf("%d: Add behind it: %v", i, e)
		}
		stands(t, c, "behind it", entry(5, fact(1, 9)), entry(10, many(200, 0, 5)...), entry(15, fact(2, 9)), entry(20, many(200, 0, 5)...), entry(30, many(200, 0, 5)...), entry(35, fact(1, 9)))
	}
}

// What is refused, of any kind, is as if it had not been asked.
func TestGoesOnBehindRefusals(t *testing.T) {
	c := some(t)
	for _, ask := range []func() api.Errno{
		func() api.Errno { return c.Add(0, nil) },
		func() api.Errno { return c.Add(50, []api.Fact{fact(1, 1), fact(1, 10)}) },
		func() api.Errno { return c.Add(20, []api.Fact{fact(1, 1)}) },
		func() api.Errno { return c.Replace(0, 5, []api.Entry{entry(50, fact(1, 1)), entry(50)}) },
		func() api.Errno { return c.Replace(0, 5, []api.Entry{entry(50, fact(1, 1)), entry(60, fact(1, 5))}) },
		func() api.Errno { return c.Replace(0, 5, []api.Entry{entry(30, many(199, 0, 5)...)}) },
	} {
		if ask() == api.OK {
			t.Error("not refused")
		}
		stands(t, c, "as it was", entry(10, fact(1, 2), fact(2, 7), fact(3, 4)), entry(30, fact(4, 8), fact(5, 9)), entry(40, fact(6, 0), fact(7, 4)))
	}
	if c.Add(50, []api.Fact{fact(8, 8)}) != api.OK || c.Replace(8, 10, []api.Entry{entry(20, fact(9, 9)), entry(60, fact(10, 8))}) != api.OK {
		t.Error("Add, Replace")
	}
	stands(t, c, "behind them", entry(10, fact(1, 2), fact(2, 7), fact(3, 4)), entry(20, fact(9, 9)), entry(40, fact(6, 0), fact(7, 4)), entry(60, fact(10, 8)))
	isThere(t, c, "behind them", []uint32{10, 20, 40, 60}, []uint32{30, 50})
}

// What Entries tells of a range, Replace lays at another cube: all is as it was, but entries of no facts.
func TestEntriesMoveFromCubeToCube(t *testing.T) {
	r := rand.New(rand.NewSource(5))
	for range 300 {
		a, b := laid(t, line(20)), laid(t, line(20))
		var whole []api.Entry
		cut := r.Intn(21)
		for at := uint32(1); at < 12; at++ {
			l := anyFacts(r, 20, 6)
			if a.Add(at, l) != api.OK {
				t.Fatal("Add")
			}
			var low, high []api.Fact
			for _, f := range l {
				if f.Key[0] < cut {
					low = append(low, f)
				} else {
					high = append(high, f)
				}
			}
			if both := slices.Concat(low, high); len(both) > 0 {
				whole = append(whole, entry(at, both...))
			}
		}
		if b.Replace(0, cut, a.Entries(0, cut)) != api.OK || b.Replace(cut, 20, a.Entries(cut, 20)) != api.OK {
			t.Fatal("Replace")
		}
		stands(t, b, "the other one", whole...)
		for at := range uint32(13) {
			want, _ := a.Query(api.Query{Levels: []int{1}, Low: []int{0}, High: []int{20}}, at)
			if got, e := b.Query(api.Query{Levels: []int{1}, Low: []int{0}, High: []int{20}}, at); e != api.OK || !areRows(got, want) {
				t.Fatalf("at %d: %v, not %v", at, got, want)
			}
		}
		if a.Replace(0, cut, b.Entries(0, cut)) != api.OK || a.Replace(0, cut, b.Entries(0, cut)) != api.OK {
			t.Fatal("Replace, again")
		}
		for at := range uint32(13) {
			want, _ := b.Query(api.Query{Levels: []int{0}, Low: []int{0}, High: []int{20}}, at)
			if got, _ := a.Query(api.Query{Levels: []int{0}, Low: []int{0}, High: []int{20}}, at); !areRows(got, want) {
				t.Fatalf("again, at %d: %v, not %v", at, got, want)
			}
		}
	}
}

// What holds.

// What is asked at a time does not change by what is laid at later ones.
func TestLaterTimesChangeNothing(t *testing.T) {
	r := rand.New(rand.NewSource(6))
	for range 300 {
		c := laid(t, line(20))
		for at := uint32(1); at <= 5; at++ {
			if r.Intn(3) > 0 {
				c.Add(at, anyFacts(r, 20, 5))
			}
		}
		var was [6][]api.Row
		for at := range was {
			was[at], _ = c.Query(whole(20), uint32(at))
		}
		done := 0
		for range 12 {
			from, to := r.Intn(21), r.Intn(21)
			time := uint32(6 + r.Intn(6))
			e := c.Add(time, anyFacts(r, 20, 5))
			if r.Intn(2) == 0 { // those at times that are asked come again, as they are
				early := slices.DeleteFunc(c.Entries(from, to), func(e api.Entry) bool { return e.At > 5 })
				e = c.Replace(from, to, append(early, anyEntries(r, from, to, 6, 12)...))
			}
			if e == api.OK {
				done++
			}
			for at := range was {
				if got, e := c.Query(whole(20), uint32(at)); e != api.OK || !areRows(got, was[at]) {
					t.Fatalf("at %d: %v, not %v", at, got, was[at])
				}
			}
		}
		if done < 2 {
			t.Fatal("few are laid")
		}
	}
}

// A batch is seen whole at its time and behind it, and not at all ahead of it.
func TestBatchesAreSeenWhole(t *testing.T) {
	r := rand.New(rand.NewSource(7))
	for range 200 {
		c := laid(t, line(20))
		times := []uint32{1, 2, 3, 4, 5, 6, 7, 8}
		r.Shuffle(len(times), func(i, j int) { times[i], times[j] = times[j], times[i] })
		facts := map[uint32][]api.Fact{}
		for _, at := range times {
			facts[at] = anyFacts(r, 20, 8)
			if e := c.Add(at, facts[at]); e != api.OK {
				t.Fatal(e)
			}
			want := map[int]int64{}
			for time := range uint32(10) {
				for _, f := range facts[time] {
					want[f.Key[0]] += f.V
				}
				if got := sums(t, c, whole(20), time); !reflect.DeepEqual(got, want) {
					t.Fatalf("at %d: %v, not %v", time, got, want)
				}
			}
		}
	}
}

// All calls, held against the chapter's words.

// both does something to a cube and to a model, and says whether they tell the same error.
type both struct {
	t testing.TB
	c *Cube
	m *model
}

func newBoth(t testing.TB, l []api.Dim) both { return both{t, laid(t, l), newModel(l)} }

func (b both) add(at uint32, l []api.Fact) api.Errno {
	b.t.Helper()
	got, want := b.c.Add(at, l), b.m.add(at, l)
	if got != want {
		b.t.Fatalf("Add at %d of %v: %v, not %v", at, l, got, want)
	}
	return got
}

func (b both) replace(from, to int, l []api.Entry) api.Errno {
	b.t.Helper()
	got, want := b.c.Replace(from, to, l), b.m.replace(from, to, l)
	if got != want {
		b.t.Fatalf("Replace from %d to %d by %v: %v, not %v", from, to, l, got, want)
	}
	return got
}

func (b both) entries(from, to int) {
	b.t.Helper()
	if got, want := b.c.Entries(from, to), b.m.told(from, to); !areEntries(got, want) || len(got) != len(want) {
		b.t.Fatalf("Entries from %d to %d: %v, not %v", from, to, got, want)
	}
}

func (b both) query(q api.Query, at uint32) api.Errno {
	b.t.Helper()
	got, e := b.c.Query(q, at)
	want, f := b.m.query(q, at)
	if e != f || !areRows(got, want) {
		b.t.Fatalf("Query of %v at %d: %v, %v, not %v, %v", q, at, got, e, want, f)
	}
	return e
}

func (b both) fits(l []api.Fact) {
	b.t.Helper()
	if got, want := b.c.Fits(l), b.m.fits(l); got != want {
		b.t.Fatalf("Fits of %v: %v", l, got)
	}
}

// steps is what may be done to a small cube: all rows of some of them are gone through.
func steps() []func(b both) {
	var l []func(b both)
	for _, at := range []uint32{1, 2, 3} {
		for _, facts := range [][]api.Fact{nil, {fact(1, 0), fact(2, 1)}} {
			l = append(l, func(b both) { b.add(at, facts) })
		}
	}
	l = append(l, func(b both) { b.add(2, []api.Fact{fact(3, 2)}) })
	for _, x := range []struct {
		from, to int
		l        []api.Entry
	}{
		{0, 3, nil},
		{0, 1, nil},
		{1, 3, []api.Entry{entry(2, fact(4, 1))}},
		{0, 2, []api.Entry{entry(1), entry(3, fact(5, 0), fact(6, 1))}},
		{1, 2, []api.Entry{entry(1, fact(7, 1)), entry(2, fact(8, 1))}},
		{2, 2, []api.Entry{entry(2)}},
		{0, 3, []api.Entry{entry(2, fact(9, 2)), entry(2)}},
		{0, 2, []api.Entry{entry(3, fact(9, 0)), entry(4, fact(9, 2))}},
	} {
		l = append(l, func(b both) { b.replace(x.from, x.to, x.l) })
	}
	return l
}

func (b both) holds(size int) {
	b.t.Helper()
	for from := range size + 1 {
		b.entries(from, size)
		b.entries(0, from)
	}
	for at := range uint32(6) {
		b.query(whole(size), at)
	}
	for at := uint32(1); at < 6; at++ { // an entry of no facts is told by this alone
		b.add(at, nil)
	}
}

func TestAnyFewSteps(t *testing.T) {
	all := steps()
	n := len(all)
	for i := range n * n * n * n {
		b := newBoth(t, []api.Dim{{Size: 3}})
		for _, j := range []int{i % n, i / n % n, i / n / n % n, i / n / n / n} {
			all[j](b)
		}
		b.holds(3)
	}
}

// anyFacts is up to n facts of members of one dimension.
func anyFacts(r *rand.Rand, size, n int) []api.Fact {
	var l []api.Fact
	for range r.Intn(n + 1) {
		l = append(l, fact(int64(r.Intn(2000)-1000), r.Intn(size)))
	}
	return l
}

// anyEntries is entries of a range, at times from one on, below another; some have no facts.
func anyEntries(r *rand.Rand, from, to int, first, end uint32) []api.Entry {
	var l []api.Entry
	for at := first; at < end; at++ {
		if r.Intn(3) == 0 {
			continue
		}
		e := entry(at)
		for range r.Intn(4) {
			if from < to {
				e.Facts = append(e.Facts, fact(int64(r.Intn(2000)-1000), from+r.Intn(to-from)))
			}
		}
		l = append(l, e)
	}
	return l
}

// wrong is entries that are mostly not to be laid, made of such as are.
func wrong(r *rand.Rand, l []api.Entry, size int) []api.Entry {
	if len(l) == 0 {
		return []api.Entry{entry(0)}
	}
	i := r.Intn(len(l))
	switch r.Intn(6) {
	case 0:
		l[i].At = 0
	case 1:
		l[i].At += uint32(r.Intn(5)) - 2
	case 2:
		l[i].Facts = append(l[i].Facts, fact(1, r.Intn(size+4)-2))
	case 3:
		l[i].Facts = append([]api.Fact{fact(1, r.Intn(size+4)-2)}, l[i].Facts...)
	case 4:
		l[i].Facts = append(l[i].Facts, fact(1, 0, 0))
	case 5:
		l = append(l, l[i])
	}
	return l
}

func TestAnySteps(t *testing.T) {
	seen := map[api.Errno]int{}
	for seed := range int64(600) {
		r := rand.New(rand.NewSource(seed))
		size := 1 + r.Intn(12)
		b := newBoth(t, line(size))
		for range 40 {
			from, to := r.Intn(size+3)-1, r.Intn(size+3)-1
			switch r.Intn(8) {
			case 0, 1, 2:
				seen[b.add(uint32(r.Intn(20)), anyFacts(r, size+r.Intn(8)/7, 6))]++
			case 3, 4:
				seen[b.replace(from, to, anyEntries(r, max(from, 0), min(to, size), uint32(1+r.Intn(8)), uint32(8+r.Intn(12))))]++
			case 5:
				seen[b.replace(from, to, wrong(r, anyEntries(r, max(from, 0), min(to, size), 1, 15), size))]++
			case 6:
				q := api.Query{Levels: []int{r.Intn(5) - 1}, Low: []int{r.Intn(size+2) - 1}, High: []int{r.Intn(size + 2)}}
				seen[b.query(q, uint32(r.Intn(22)))]++
			case 7:
				b.fits(anyFacts(r, size+1, 6))
			}
			b.entries(from, to)
			b.query(whole(size), uint32(r.Intn(22)))
		}
		b.entries(math.MinInt, math.MaxInt)
		for at := range uint32(22) {
			b.add(at, nil)
		}
	}
	for _, e := range []api.Errno{api.OK, api.ErrArg, api.ErrAt, api.ErrLevel, api.ErrQuery} {
		if seen[e] < 100 {
			t.Errorf("few of a kind: %v", seen)
		}
	}
}

// Two dimensions, and entries that come near 200 facts.
func TestAnyStepsOfManyFacts(t *testing.T) {
	seen := map[api.Errno]int{}
	l := field()
	for seed := range int64(60) {
		r := rand.New(rand.NewSource(1000 + seed))
		b := newBoth(t, l)
		draw := func(n, from, to int) []api.Fact {
			var out []api.Fact
			for range n {
				out = append(out, fact(int64(r.Intn(99)), from+r.Intn(to-from), r.Intn(3)))
			}
			return out
		}
		for at := uint32(1); at <= 4; at++ {
			b.add(at, draw(195+r.Intn(6), 0, 100))
		}
		for range 20 {
			from := r.Intn(100)
			to := from + 1 + r.Intn(100-from)
			var put []api.Entry
			for _, e := range b.c.Entries(from, to) {
				if n := len(e.Facts) + r.Intn(7) - 4; n >= 0 {
					put = append(put, entry(e.At, draw(min(n, 201), from, to)...))
				}
			}
			seen[b.replace(from, to, put)]++
			b.entries(math.MinInt, math.MaxInt)
			b.query(api.Query{Levels: []int{r.Intn(4), r.Intn(2)}, Low: []int{0, 0}, High: []int{100, 3}}, uint32(r.Intn(6)))
		}
	}
	if seen[api.OK] < 100 || seen[api.ErrLimit] < 50 {
		t.Errorf("few of a kind: %v", seen)
	}
}

// Cubes that come near 5000 entries.
func TestAnyStepsOfManyEntries(t *testing.T) {
	seen := map[api.Errno]int{}
	for seed := range int64(12) {
		r := rand.New(rand.NewSource(2000 + seed))
		b := newBoth(t, line(50))
		for _, i := range r.Perm(4990) {
			var l []api.Fact
			if i%7 > 0 {
				l = []api.Fact{fact(int64(i), i%50)}
			}
			b.add(uint32(2*i+2), l)
		}
		for range 60 {
			from := r.Intn(48)
			at := uint32(1 + r.Intn(10000))
			switch r.Intn(4) {
			case 0, 1:
				seen[b.add(at, anyFacts(r, 50, 2))]++
			case 2: // what is there comes again, and some more
				seen[b.replace(from, from+2, append(b.c.Entries(from, from+2), anyEntries(r, from, from+2, 10001, uint32(10001+r.Intn(9)))...))]++
			case 3: // some goes, and some of it comes again
				l := b.c.Entries(from, from+1)
				i := r.Intn(len(l) + 1)
				seen[b.replace(from, from+1, slices.Delete(l, i, min(i+r.Intn(4), len(l))))]++
			}
		}
		b.entries(math.MinInt, math.MaxInt)
		for at := range uint32(40) {
			seen[b.add(at, nil)]++
		}
	}
	if seen[api.OK] < 50 || seen[api.ErrLimit] < 50 || seen[api.ErrAt] < 50 {
		t.Errorf("few of a kind: %v", seen)
	}
}

// No numbers make a call panic.
func TestExtremes(t *testing.T) {
	for _, a := range extremes() {
		for _, x := range extremes() {
			b := newBoth(t, line(10))
			b.add(3, []api.Fact{fact(1, 4), fact(2, 5)})
			b.add(uint32(a), nil)
			b.add(uint32(x), []api.Fact{fact(3, a)})
			b.fits([]api.Fact{fact(3, a), fact(1, x)})
			b.entries(a, x)
			b.query(api.Query{Levels: []int{a}, Low: []int{0}, High: []int{5}}, uint32(x))
			b.query(api.Query{Levels: []int{1}, Low: []int{a}, High: []int{x}}, 9)
			b.replace(a, x, []api.Entry{entry(uint32(x), fact(5, 4))})
			b.replace(a, x, []api.Entry{entry(3, fact(5, a))})
			b.replace(a, x, nil)
			b.entries(math.MinInt, math.MaxInt)
			b.query(whole(10), math.MaxUint32)
		}
	}
}

// All that a cube may hold, told in bounded time.
func TestAllThatMayBe(t *testing.T) {
	c := laid(t, []api.Dim{{Size: 10000}, {Size: 10000}, {Size: 10000}, {Size: 10000}})
	l := make([]api.Fact, 200)
	for i := range l {
		l[i] = fact(1, i, 9999, i, 9999)
	}
	for at := uint32(5000); at > 0; at-- {
		if e := c.Add(at, l); e != api.OK {
			t.Fatalf("Add at %d: %v", at, e)
		}
	}
	q := api.Query{Levels: []int{0, 1, 1, 1}, Low: []int{0, 0, 0, 0}, High: []int{10000, 10000, 10000, 10000}}
	rows, e := c.Query(q, 5000)
	if e != api.OK || len(rows) != 200 || rows[199].Cell.N != 5000 {
		t.Errorf("Query: %d rows, %v", len(rows), e)
	}
	moved := c.Entries(100, 10000)
	if len(moved) != 5000 || len(moved[4999].Facts) != 100 {
		t.Errorf("Entries: %d", len(moved))
	}
	if e := c.Replace(100, 10000, moved); e != api.OK {
		t.Errorf("Replace: %v", e)
	}
	moved[4000].Facts = append(moved[4000].Facts, fact(1, 100, 0, 0, 0))
	if e := c.Replace(100, 10000, moved); e != api.ErrLimit {
		t.Errorf("Replace by one more: %v", e)
	}
}

// What is handed in, and what comes out.

// hide is a list behind whose length something stands.
func hide[T any](l []T, behind ...T) []T {
	out := append(append(make([]T, 0, len(l)+len(behind)), l...), behind...)
	return out[:len(l)]
}

func all[T any](l []T) []T { return l[:cap(l)] }

// spoil writes over a list, and over what lies behind its length.
func spoil[T any](l []T, with T) {
	l = l[:cap(l)]
	for i := range l {
		l[i] = with
	}
}

func spoilFacts(l []api.Fact) {
	for _, f := range l {
		spoil(f.Key, 3)
	}
	spoil(l, fact(88, 3))
}

func spoilEntries(l []api.Entry) {
	for _, e := range l {
		spoilFacts(e.Facts)
	}
	spoil(l, entry(77, fact(77, 3)))
}

// blank says whether nothing lies behind a list's length.
func blank[T any](l []T) bool {
	for _, v := range l[len(l):cap(l)] {
		if !reflect.ValueOf(v).IsZero() {
			return false
		}
	}
	return true
}

func hiddenFacts(l []api.Fact) []api.Fact {
	var out []api.Fact
	for _, f := range l {
		out = append(out, api.Fact{Key: hide(f.Key, 4, -1), V: f.V})
	}
	return hide(out, fact(99, 4), fact(98, -1))
}

func hiddenEntries(l []api.Entry) []api.Entry {
	var out []api.Entry
	for _, e := range l {
		out = append(out, api.Entry{At: e.At, Facts: hiddenFacts(e.Facts)})
	}
	return hide(out, entry(0, fact(97, 4)), entry(70, fact(96, 4)))
}

func hiddenDims(l []api.Dim) []api.Dim {
	var out []api.Dim
	for _, d := range l {
		out = append(out, api.Dim{Size: d.Size, Div: hide(d.Div, 1, 7)})
	}
	return hide(out, api.Dim{Size: 1}, api.Dim{})
}

func hiddenQuery(q api.Query) api.Query {
	return api.Query{Levels: hide(q.Levels, 1, -1), Low: hide(q.Low, 1, -1), High: hide(q.High, 1, 99)}
}

// Nothing is written to what is handed in, nor behind its length, and nothing behind it is read.
func TestWhatIsHandedInStays(t *testing.T) {
	l := hiddenDims(line(10))
	c := New(l)
	facts := hiddenFacts([]api.Fact{fact(1, 3), fact(2, 6), fact(3, 3)})
	put := hiddenEntries([]api.Entry{entry(3, fact(6, 3)), entry(4), entry(5, fact(4, 3), fact(5, 4)), entry(7, fact(6, 3))})
	q := hiddenQuery(whole(10))
	wasFacts, wasPut := plain(all(facts)), plainEntries(all(put))
	if !c.Fits(facts) || c.Add(5, facts) != api.OK || c.Add(3, facts) != api.OK || c.Add(9, facts[:1]) != api.OK {
		t.Fatal("Add")
	}
	if c.Add(5, facts) != api.ErrAt || c.Add(0, facts) != api.ErrAt {
		t.Error("Add, refused")
	}
	if c.Replace(3, 5, put) != api.OK || c.Replace(3, 4, put) != api.ErrArg || c.Replace(0, 10, put[1:3]) != api.OK || c.Replace(3, 5, put) != api.OK {
		t.Error("Replace")
	}
	want := []api.Entry{entry(3, fact(6, 3)), entry(5, fact(4, 3), fact(5, 4)), entry(7, fact(6, 3))}
	stands(t, c, "what comes of it", want...)
	if rows, e := c.Query(q, 5); e != api.OK || len(rows) != 2 {
		t.Errorf("Query: %v, %v", rows, e)
	}
	if !reflect.DeepEqual(plain(all(facts)), wasFacts) || !reflect.DeepEqual(plainEntries(all(put)), wasPut) {
		t.Errorf("changed: %v, %v", all(facts), all(put))
	}
	for _, f := range slices.Concat(facts, put[0].Facts, put[2].Facts) {
		if !slices.Equal(f.Key[1:cap(f.Key)], []int{4, -1}) {
			t.Errorf("written behind a key: %v", all(f.Key))
		}
	}
	for i, e := range put {
		if behind := e.Facts[len(e.Facts):cap(e.Facts)]; !areFacts(behind, []api.Fact{fact(99, 4), fact(98, -1)}) {
			t.Errorf("written behind the facts of %d: %v", i, behind)
		}
	}
	if !reflect.DeepEqual(all(l), []api.Dim{{Size: 10, Div: []int{5}}, {Size: 1}, {}}) || !slices.Equal(all(l[0].Div), []int{5, 1, 7}) {
		t.Errorf("dimensions were changed: %v", all(l))
	}
	if !slices.Equal(all(q.Levels), []int{0, 1, -1}) || !slices.Equal(all(q.Low), []int{0, 1, -1}) || !slices.Equal(all(q.High), []int{10, 1, 99}) {
		t.Errorf("a query was changed: %v", q)
	}
}

// What lies behind lengths would make dimensions not sound, and facts and entries not fit.
func TestWhatLiesBehindIsNotRead(t *testing.T) {
	c := New(hiddenDims(line(10)))
	if c == nil || !c.Fits(hiddenFacts(many(200, 0, 10))) || c.Fits(hiddenFacts([]api.Fact{fact(1, 10)})) {
		t.Fatal("New, Fits")
	}
	if c.Add(2, hiddenFacts(nil)) != api.OK || c.Add(4, hiddenFacts([]api.Fact{fact(1, 6)})) != api.OK {
		t.Error("Add")
	}
	if c.Replace(0, 4, hiddenEntries(nil)) != api.OK || c.Replace(5, 9, hiddenEntries([]api.Entry{entry(1), entry(2, fact(2, 5))})) != api.OK {
		t.Error("Replace")
	}
	stands(t, c, "what comes of it", entry(2, fact(2, 5)))
	isThere(t, c, "what comes of it", []uint32{2}, []uint32{1, 4, 70})
	if _, e := c.Query(hiddenQuery(api.Query{}), 5); e != api.ErrLevel {
		t.Errorf("Query: %v", e)
	}
}

// Nothing that is handed in is kept.
func TestNothingIsKept(t *testing.T) {
	l := []api.Dim{{Size: 10, Div: []int{5}}, {Size: 4}}
	c := New(l)
	spoil(l[0].Div, 2)
	spoil(l, api.Dim{Size: 3})
	key := []int{7, 1}
	facts := []api.Fact{{Key: key, V: 1}, {Key: key, V: 2}, fact(3, 9, 3)}
	if e := c.Add(4, facts); e != api.OK {
		t.Fatal(e)
	}
	spoilFacts(facts)
	put := []api.Entry{entry(2, fact(4, 2, 0)), entry(4, fact(5, 3, 1)), entry(6, fact(6, 4, 2))}
	if e := c.Replace(0, 5, put); e != api.OK {
		t.Fatal(e)
	}
	spoilEntries(put)
	stands(t, c, "as laid", entry(2, fact(4, 2, 0)), entry(4, fact(1, 7, 1), fact(2, 7, 1), fact(3, 9, 3), fact(5, 3, 1)), entry(6, fact(6, 4, 2)))
	rows, e := c.Query(api.Query{Levels: []int{1, 0}, Low: []int{0, 0}, High: []int{10, 4}}, 9)
	want := []api.Row{
		{Key: []int{0, 0}, Cell: api.Cell{N: 1, Sum: 4, Min: 4, Max: 4}},
		{Key: []int{0, 1}, Cell: api.Cell{N: 1, Sum: 5, Min: 5, Max: 5}},
		{Key: []int{0, 2}, Cell: api.Cell{N: 1, Sum: 6, Min: 6, Max: 6}},
		{Key: []int{1, 1}, Cell: api.Cell{N: 2, Sum: 3, Min: 1, Max: 2}},
		{Key: []int{1, 3}, Cell: api.Cell{N: 1, Sum: 3, Min: 3, Max: 3}}}
	if e != api.OK || !areRows(rows, want) {
		t.Errorf("Query: %v, %v", rows, e)
	}
}

// What comes out is new memory: written over, it changes neither the cube nor another answer.
func TestWhatComesOutIsNewMemory(t *testing.T) {
	c := some(t)
	was := plainEntries(everything(c))
	for _, x := range [][2]int{{0, 10}, {0, 5}, {5, 10}, {7, 8}, {math.MinInt, math.MaxInt}} {
		a, b := c.Entries(x[0], x[1]), c.Entries(x[0], x[1])
		want := plainEntries(a)
		spoilEntries(a)
		if !areEntries(b, want) {
			t.Errorf("%v: two answers share memory: %v", x, b)
		}
		stands(t, c, "written over", was...)
	}
	rows, _ := c.Query(whole(10), 40)
	again, _ := c.Query(whole(10), 40)
	want := plainRows(again)
	for _, r := range rows {
		spoil(r.Key, 77)
	}
	spoil(rows, api.Row{})
	if !areRows(again, want) {
		t.Errorf("two tables share memory: %v", again)
	}
	stands(t, c, "written over", was...)
}

// An answer of a time ahead of a Replace stays, and what was told may be laid again and written over.
func TestAnswersOutliveReplace(t *testing.T) {
	c := some(t)
	told := everything(c)
	want := plainEntries(told)
	if c.Replace(0, 10, []api.Entry{entry(10, fact(9, 9))}) != api.OK {
		t.Fatal("Replace")
	}
	if !areEntries(told, want) {
		t.Errorf("told: %v", told)
	}
	if c.Replace(0, 10, told) != api.OK {
		t.Fatal("Replace by what was told")
	}
	spoilEntries(told)
	stands(t, c, "laid again", want...)
}

// Lists of one answer stand apart: grown or written over, none reaches into another.
func TestListsOfOneAnswerStandApart(t *testing.T) {
	key := []int{6}
	c := laid(t, line(10), entry(2, api.Fact{Key: key, V: 1}, api.Fact{Key: key, V: 2}), entry(4, api.Fact{Key: key, V: 3}))
	if c.Replace(0, 5, []api.Entry{entry(2, fact(4, 3)), entry(6, fact(5, 3))}) != api.OK {
		t.Fatal("Replace")
	}
	want := []api.Entry{entry(2, fact(1, 6), fact(2, 6), fact(4, 3)), entry(4, fact(3, 6)), entry(6, fact(5, 3))}
	l := everything(c)
	for _, e := range l {
		_ = append(e.Facts, fact(77, 7), fact(77, 7), fact(77, 7))
		for _, f := range e.Facts {
			_ = append(f.Key, 77, 77, 77)
		}
	}
	if !areEntries(l, want) {
		t.Errorf("grown: %v", l)
	}
	spoilFacts(l[0].Facts[:1:1])
	if !areEntries(l[1:], want[1:]) || !areFacts(l[0].Facts[1:], want[0].Facts[1:]) {
		t.Errorf("written over: %v", l)
	}
	stands(t, c, "as laid", want...)
}

func TestNothingLiesBehindWhatComesOut(t *testing.T) {
	c := laid(t, line(10))
	for at := uint32(1); at < 6; at++ {
		c.Add(at, hiddenFacts(many(int(at)+4, 0, 10)))
	}
	c.Replace(0, 5, hiddenEntries([]api.Entry{entry(2, fact(1, 3)), entry(3, many(7, 0, 5)...)}))
	for from := range 10 {
		l := c.Entries(from, 10)
		if !blank(l) {
			t.Errorf("from %d: %v", from, all(l))
		}
		for _, e := range l {
			if !blank(e.Facts) {
				t.Errorf("from %d: at %d: %v", from, e.At, all(e.Facts))
			}
			for _, f := range e.Facts {
				if !blank(f.Key) {
					t.Errorf("from %d: at %d: %v", from, e.At, all(f.Key))
				}
			}
		}
	}
}

// FuzzCube does to a cube and to a model what any bytes tell, and holds them against each other.
func FuzzCube(f *testing.F) {
	f.Add([]byte{0, 2, 1, 0, 1, 1, 3, 0, 9, 2, 1, 1, 1})
	f.Add([]byte{0, 1, 3, 1, 2, 3, 1, 0, 5, 2, 1, 2, 1, 3, 4, 2, 9, 9, 3, 0, 5})
	f.Add([]byte{4, 200, 200, 0, 7, 200, 1, 0, 255, 1, 7, 1, 4})
	f.Fuzz(func(t *testing.T, bytes []byte) {
		if len(bytes) > 400 {
			return
		}
		next := func() int {
			if len(bytes) == 0 {
				return 0
			}
			v := int(bytes[0])
			bytes = bytes[1:]
			return v
		}
		size := 1 + next()%8
		b := newBoth(t, line(size))
		facts := func() []api.Fact {
			var l []api.Fact
			n := next()
			if n >= 16 {
				n = n % 4 * 67 // up to 201
			}
			seed := next()
			for i := range n {
				l = append(l, fact(int64(seed-i), (seed+i)%(size+seed/250)))
			}
			return l
		}
		for len(bytes) > 0 {
			switch next() % 4 {
			case 0:
				b.add(uint32(next()%16), facts())
			case 1:
				from, to := next()%16-2, next()%16-2
				var l []api.Entry
				at := uint32(0)
				for range next() % 6 {
					at += uint32(next() % 5)
					e := entry(at, facts()...)
					if next()%4 > 0 { // mostly of the range
						e.Facts = slices.DeleteFunc(e.Facts, func(f api.Fact) bool { return f.Key[0] < from || f.Key[0] >= to })
					}
					l = append(l, e)
				}
				b.replace(from, to, l)
			case 2:
				b.entries(next()%16-2, next()%16-2)
			case 3:
				b.query(api.Query{Levels: []int{next() % 4}, Low: []int{next()%16 - 2}, High: []int{next() % 16}}, uint32(next()%20))
			}
		}
		b.entries(math.MinInt, math.MaxInt)
		for at := range uint32(20) {
			b.query(whole(size), at)
			b.add(at, nil)
		}
	})
}
