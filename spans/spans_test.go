package spans

import (
	"fmt"
	"math"
	"math/rand"
	"reflect"
	"slices"
	"testing"

	"stratum/api"
)

// of is a map's spans: from, node, from, node, and so on.
func of(l ...int) []api.Span {
	var out []api.Span
	for i := 0; i+1 < len(l); i += 2 {
		out = append(out, api.Span{From: l[i], Node: l[i+1]})
	}
	return out
}

func mapOf(epoch uint32, l ...int) api.Map { return api.Map{Epoch: epoch, L: of(l...)} }

// striped is n spans of so many members each, of some nodes by turns.
func striped(n, wide int, nodes ...int) api.Map {
	m := api.Map{Epoch: 9}
	for i := range n {
		m.L = append(m.L, api.Span{From: i * wide, Node: nodes[i%len(nodes)]})
	}
	return m
}

func fact(v int64, places ...int) api.Fact { return api.Fact{Key: places, V: v} }

func isMap(a, b api.Map) bool { return a.Epoch == b.Epoch && slices.Equal(a.L, b.L) }

func copyOf(m api.Map) api.Map { return api.Map{Epoch: m.Epoch, L: slices.Clone(m.L)} }

// plain is facts with nothing behind their lists' lengths, and with nil for empty lists.
func plain(l []api.Fact) []api.Fact {
	var out []api.Fact
	for _, f := range l {
		out = append(out, api.Fact{Key: append([]int(nil), f.Key...), V: f.V})
	}
	return out
}

func areFacts(a, b []api.Fact) bool { return reflect.DeepEqual(plain(a), plain(b)) }

// extremes is numbers that lead over the ends of int, or of the members, if they are reckoned with.
func extremes() []int {
	return []int{math.MinInt, math.MinInt + 1, math.MinInt32, -10000, -1, 0, 1, 5, 6, 40, 9999, 10000, 10001, math.MaxInt32, math.MaxInt - 1, math.MaxInt}
}

// What follows is the chapter's words, one by one, however slowly.

func sound(m api.Map, size, nodes int) bool {
	if len(m.L) < 1 || len(m.L) > 40 || m.L[0].From != 0 {
		return false
	}
	for _, s := range m.L {
		if s.From >= size || s.Node < 0 || s.Node >= nodes || s.Node > 5 {
			return false
		}
	}
	for i := 1; i < len(m.L); i++ {
		if m.L[i].From <= m.L[i-1].From || m.L[i].Node == m.L[i-1].Node {
			return false
		}
	}
	return true
}

func find(m api.Map, member int) int {
	node := -1
	for _, s := range m.L {
		if s.From <= member {
			node = s.Node
		}
	}
	return node
}

func parts(m api.Map, l []api.Fact, node int) []api.Fact {
	var out []api.Fact
	for _, f := range l {
		if len(f.Key) != 0 && find(m, f.Key[0]) == node {
			out = append(out, f)
		}
	}
	return plain(out)
}

func nodesOf(m api.Map, from, to int) []int {
	var told [6]bool
	for member := range 10000 {
		if member < from || member >= to {
			continue
		}
		if node := find(m, member); node >= 0 && node <= 5 {
			told[node] = true
		}
	}
	var out []int
	for node, ok := range told {
		if ok {
			out = append(out, node)
		}
	}
	return out
}

// split paints each member with its node, and tells the spans from that.
func split(m api.Map, size, nodes, from, to, node int) (api.Map, api.Errno) {
	if !sound(m, size, nodes) || size > 10000 || from < 0 || from >= to || to > size || node < 0 || node >= nodes || node > 5 {
		return api.Map{}, api.ErrSpan
	}
	holds := make([]int, size)
	another := false
	for member := range holds {
		holds[member] = find(m, member)
		if from <= member && member < to {
			another = another || holds[member] != node
			holds[member] = node
		}
	}
	if !another {
		return api.Map{}, api.ErrSpan
	}
	out := api.Map{Epoch: m.Epoch + 1}
	for member := range holds {
		if member == 0 || holds[member] != holds[member-1] {
			out.L = append(out.L, api.Span{From: member, Node: holds[member]})
		}
	}
	if len(out.L) > 40 {
		return api.Map{}, api.ErrLimit
	}
	return out, api.OK
}

// The chapter's example, and the calls of it.

func TestExample(t *testing.T) {
	m, e := Split(New(), 100, 2, 30, 60, 1)
	if e != api.OK || !isMap(m, mapOf(2, 0, 0, 30, 1, 60, 0)) {
		t.Fatalf("Split: %v, %v", m, e)
	}
	if !Sound(m, 100, 2) || !Same(m, mapOf(2, 0, 0, 30, 1, 60, 0)) {
		t.Error("what comes of it")
	}
	for member, want := range map[int]int{-1: -1, 0: 0, 29: 0, 30: 1, 59: 1, 60: 0, 99: 0} {
		if got := Find(m, member); got != want {
			t.Errorf("Find %d: %d, not %d", member, got, want)
		}
	}
}

func TestNew(t *testing.T) {
	if m := New(); !isMap(m, mapOf(1, 0, 0)) || !Sound(m, 1, 1) || Find(m, 9999) != 0 {
		t.Errorf("New: %v", m)
	}
}

// Sound.

func TestSound(t *testing.T) {
	for name, c := range map[string]struct {
		m           api.Map
		size, nodes int
		want        bool
	}{
		"no spans":                       {mapOf(1), 100, 6, false},
		"no spans, empty":                {api.Map{L: []api.Span{}}, 100, 6, false},
		"one":                            {mapOf(1, 0, 0), 100, 1, true},
		"one, of the last node":          {mapOf(1, 0, 5), 100, 6, true},
		"epoch 0":                        {mapOf(0, 0, 0), 100, 1, true},
		"the greatest epoch":             {mapOf(math.MaxUint32, 0, 0), 100, 1, true},
		"three":                          {mapOf(1, 0, 0, 30, 1, 60, 0), 100, 2, true},
		"more members than a map is of":  {mapOf(1, 0, 0, 10000, 1), 10001, 2, true},
		"any number of members":          {mapOf(1, 0, 0, math.MaxInt-1, 1), math.MaxInt, 2, true},
		"the first from 1":               {mapOf(1, 1, 0), 100, 1, false},
		"the first below 0":              {mapOf(1, -1, 0), 100, 1, false},
		"the first below 0, then 0":      {mapOf(1, -1, 0, 0, 1), 100, 2, false},
		"0 not the first":                {mapOf(1, 5, 0, 0, 1), 100, 2, false},
		"alike":                          {mapOf(1, 0, 0, 30, 1, 30, 0), 100, 2, false},
		"alike at 0":                     {mapOf(1, 0, 0, 0, 1), 100, 2, false},
		"falling":                        {mapOf(1, 0, 0, 30, 1, 29, 0), 100, 2, false},
		"falling below 0":                {mapOf(1, 0, 0, -1, 1), 100, 2, false},
		"falling by one, then above all": {mapOf(1, 0, 0, 50, 1, 49, 2, 60, 0), 100, 3, false},
		"rising by one":                  {mapOf(1, 0, 0, 1, 1, 2, 0), 3, 2, true},
		"at size":                        {mapOf(1, 0, 0, 100, 1), 100, 2, false},
		"below size by one":              {mapOf(1, 0, 0, 99, 1), 100, 2, true},
		"above size":                     {mapOf(1, 0, 0, 101, 1), 100, 2, false},
		"far above size":                 {mapOf(1, 0, 0, math.MaxInt, 1), 100, 2, false},
		"in the midst at size":           {mapOf(1, 0, 0, 100, 1, 50, 0), 100, 2, false},
		"size 1":                         {mapOf(1, 0, 0), 1, 1, true},
		"size 0":                         {mapOf(1, 0, 0), 0, 1, false},
		"size -1":                        {mapOf(1, 0, 0), -1, 1, false},
		"the least size":                 {mapOf(1, 0, 0), math.MinInt, 1, false},
		"side by side one node":          {mapOf(1, 0, 0, 30, 0), 100, 2, false},
		"side by side one node, later":   {mapOf(1, 0, 1, 30, 0, 60, 0), 100, 2, false},
		"one node with one between":      {mapOf(1, 0, 1, 30, 0, 60, 1), 100, 2, true},
		"one node with two between":      {mapOf(1, 0, 1, 30, 0, 60, 2, 90, 1), 100, 3, true},
		"node -1":                        {mapOf(1, 0, -1), 100, 2, false},
		"node -1, later":                 {mapOf(1, 0, 0, 30, -1), 100, 2, false},
		"the least node":                 {mapOf(1, 0, math.MinInt), 100, 2, false},
		"node at nodes":                  {mapOf(1, 0, 0, 30, 2), 100, 2, false},
		"node at nodes, first":           {mapOf(1, 0, 2, 30, 0), 100, 2, false},
		"node below nodes by one":        {mapOf(1, 0, 0, 30, 2), 100, 3, true},
		"node 5 of 6":                    {mapOf(1, 0, 5, 30, 4), 100, 6, true},
		"node 5 of 5":                    {mapOf(1, 0, 5, 30, 4), 100, 5, false},
		"node 5 of 7":                    {mapOf(1, 0, 5), 100, 7, true},
		"node 6 of 7":                    {mapOf(1, 0, 6), 100, 7, false},
		"node 6 of 7, later":             {mapOf(1, 0, 0, 30, 6), 100, 7, false},
		"node 6 of any":                  {mapOf(1, 0, 6), 100, math.MaxInt, false},
		"node 5 of any":                  {mapOf(1, 0, 5), 100, math.MaxInt, true},
		"the greatest node":              {mapOf(1, 0, math.MaxInt), 100, math.MaxInt, false},
		"no nodes":                       {mapOf(1, 0, 0), 100, 0, false},
		"nodes -1":                       {mapOf(1, 0, 0), 100, -1, false},
		"nodes -1, node -1":              {mapOf(1, 0, -1), 100, -1, false},
		"nodes -1, node -2":              {mapOf(1, 0, -2), 100, -1, false},
		"the least nodes":                {mapOf(1, 0, 0), 100, math.MinInt, false},
	} {
		if got := Sound(c.m, c.size, c.nodes); got != c.want {
			t.Errorf("%s: %v", name, got)
		}
	}
}

func TestSoundOfManySpans(t *testing.T) {
	for n, want := range map[int]bool{1: true, 2: true, 39: true, 40: true, 41: false, 42: false, 80: false, 1000: false} {
		for _, m := range []api.Map{striped(n, 1, 0, 1), striped(n, 7, 5, 4, 0)} {
			if got := Sound(m, 7000, 6); got != want {
				t.Errorf("%d spans: %v", n, got)
			}
		}
		if got := Sound(striped(n, 1, 0, 1), n, 2); got != want {
			t.Errorf("%d spans of as many members: %v", n, got)
		}
		if Sound(striped(n, 1, 0, 1), n-1, 2) {
			t.Errorf("%d spans of fewer members", n)
		}
	}
}

// One number of a map of 40 spans is wrong, wherever it stands.
func TestSoundIsAskedOfEachSpan(t *testing.T) {
	for i := range 40 {
		for name, wrong := range map[string]func(s *api.Span){
			"node below 0":      func(s *api.Span) { s.Node = -1 },
			"node at nodes":     func(s *api.Span) { s.Node = 3 },
			"from at size":      func(s *api.Span) { s.From = 120 },
			"from as the next":  func(s *api.Span) { s.From = 3 * (i + 1) },
			"from below 0":      func(s *api.Span) { s.From = -3 },
			"from as the last":  func(s *api.Span) { s.From = 3 * (i - 1) },
			"from above itself": func(s *api.Span) { s.From += 3 * 40 },
		} {
			m := striped(40, 3, 0, 1, 2)
			if wrong(&m.L[i]); Sound(m, 120, 3) {
				t.Errorf("%s, at %d", name, i)
			}
		}
		m := striped(40, 3, 0, 1, 2)
		if m.L[i].Node = (i + 1) % 3; Sound(m, 120, 3) != (i == 39) {
			t.Errorf("node as the next, at %d", i)
		}
	}
}

// eachMap tells all maps of up to n spans, of some Froms and Nodes.
func eachMap(n int, froms, nodes []int, tell func(m api.Map)) {
	var more func(l []api.Span)
	more = func(l []api.Span) {
		tell(api.Map{Epoch: 3, L: l})
		if len(l) == n {
			return
		}
		for _, from := range froms {
			for _, node := range nodes {
				more(append(slices.Clone(l), api.Span{From: from, Node: node}))
			}
		}
	}
	more(nil)
}

func TestSoundOfAnyFewSpans(t *testing.T) {
	seen := map[bool]int{}
	eachMap(3, []int{-1, 0, 1, 2, 3}, []int{-1, 0, 1, 5, 6}, func(m api.Map) {
		for size := -1; size <= 4; size++ {
			for _, nodes := range []int{-1, 0, 1, 2, 5, 6, 7} {
				want := sound(m, size, nodes)
				seen[want]++
				if got := Sound(m, size, nodes); got != want {
					t.Fatalf("%v, %d, %d: %v", m.L, size, nodes, got)
				}
			}
		}
	})
	if seen[true] < 20 || seen[false] < 20 {
		t.Errorf("few of a kind: %v", seen)
	}
}

func TestSoundOfExtremes(t *testing.T) {
	for _, a := range extremes() {
		for _, b := range extremes() {
			for _, c := range extremes() {
				for _, m := range []api.Map{mapOf(1, a, b), mapOf(1, 0, 0, a, b), mapOf(1, 0, 0, a, 1, b, 2), mapOf(1, 0, a, 5, b)} {
					if got := Sound(m, c, 6); got != sound(m, c, 6) {
						t.Errorf("%v, %d, 6: %v", m.L, c, got)
					}
					if got := Sound(m, 100, c); got != sound(m, 100, c) {
						t.Errorf("%v, 100, %d: %v", m.L, c, got)
					}
				}
			}
		}
	}
}

// Find.

func TestFind(t *testing.T) {
	for name, c := range map[string]struct {
		m    api.Map
		want map[int]int // by members
	}{
		"no spans":     {mapOf(1), map[int]int{-1: -1, 0: -1, 5: -1, math.MaxInt: -1, math.MinInt: -1}},
		"one":          {mapOf(1, 0, 3), map[int]int{math.MinInt: -1, -1: -1, 0: 3, 1: 3, 10000: 3, math.MaxInt: 3}},
		"two":          {mapOf(1, 0, 3, 50, 1), map[int]int{-1: -1, 0: 3, 49: 3, 50: 1, 51: 1, 20000: 1}},
		"four":         {mapOf(1, 0, 2, 1, 0, 2, 4, 99, 2), map[int]int{-1: -1, 0: 2, 1: 0, 2: 4, 3: 4, 98: 4, 99: 2, 100: 2}},
		"begins late":  {mapOf(1, 10, 2, 20, 3), map[int]int{0: -1, 9: -1, 10: 2, 19: 2, 20: 3}},
		"begins early": {mapOf(1, -10, 2, 20, 3), map[int]int{-11: -1, -10: 2, -1: 2, 0: 2, 19: 2, 20: 3}},
		"falling":      {mapOf(1, 20, 2, 10, 3), map[int]int{9: -1, 10: 3, 19: 3, 20: 3, 21: 3}},
		"in any order": {mapOf(1, 20, 2, 30, 1, 10, 3, 25, 4), map[int]int{9: -1, 10: 3, 24: 3, 25: 4, 29: 4, 30: 4, 31: 4}},
		"alike":        {mapOf(1, 0, 2, 0, 1, 0, 4), map[int]int{-1: -1, 0: 4, 1: 4}},
		"one node":     {mapOf(1, 0, 2, 5, 2), map[int]int{-1: -1, 4: 2, 5: 2}},
		"nodes wrong":  {mapOf(1, 0, -7, 5, -1, 10, 99, 20, math.MinInt), map[int]int{0: -7, 5: -1, 10: 99, 20: math.MinInt, -5: -1}},
		"the extremes": {mapOf(1, math.MinInt, 4, math.MaxInt, 2), map[int]int{math.MinInt: 4, 0: 4, math.MaxInt - 1: 4, math.MaxInt: 2}},
	} {
		for member, want := range c.want {
			if got := Find(c.m, member); got != want {
				t.Errorf("%s: %d: %d, not %d", name, member, got, want)
			}
		}
	}
}

func TestFindInFortySpans(t *testing.T) {
	m := striped(40, 5, 0, 3, 1, 5)
	for member := -3; member < 400; member++ {
		want := -1
		if member >= 0 {
			want = []int{0, 3, 1, 5}[min(member/5, 39)%4]
		}
		if got := Find(m, member); got != want {
			t.Errorf("%d: %d, not %d", member, got, want)
		}
	}
}

func TestFindInAnyFewSpans(t *testing.T) {
	eachMap(3, []int{-2, 0, 1, 3}, []int{-2, 0, 1, 7}, func(m api.Map) {
		for member := -4; member <= 5; member++ {
			if got, want := Find(m, member), find(m, member); got != want {
				t.Fatalf("%v: %d: %d, not %d", m.L, member, got, want)
			}
		}
	})
}

func TestFindOfExtremes(t *testing.T) {
	for _, a := range extremes() {
		for _, b := range extremes() {
			for _, m := range []api.Map{mapOf(1, a, 1, b, 2), mapOf(1, b, 1), mapOf(1, 0, 0, a, b)} {
				for _, member := range append(extremes(), a-1, a+1, b-1, b+1) {
					if got, want := Find(m, member), find(m, member); got != want {
						t.Errorf("%v: %d: %d, not %d", m.L, member, got, want)
					}
				}
			}
		}
	}
}

// Parts.

func TestParts(t *testing.T) {
	m := mapOf(2, 0, 0, 30, 1, 60, 0)
	l := []api.Fact{fact(1, 70, 3), fact(2, 30), fact(3), fact(4, 0, 31, 5), fact(5, 59, 0), fact(6, 29), fact(7, 30), fact(8, -1), fact(9, 60), fact(10, 20000, -1)}
	for name, c := range map[string]struct {
		m    api.Map
		l    []api.Fact
		node int
		want []api.Fact
	}{
		"node 0":                   {m, l, 0, []api.Fact{l[0], l[3], l[5], l[8], l[9]}},
		"node 1":                   {m, l, 1, []api.Fact{l[1], l[4], l[6]}},
		"of none":                  {m, l, 2, nil},
		"of nobody":                {m, l, -1, []api.Fact{l[7]}},
		"all":                      {mapOf(1, 0, 4), []api.Fact{l[9], l[1], l[0]}, 4, []api.Fact{l[9], l[1], l[0]}},
		"no facts":                 {m, nil, 0, nil},
		"no facts, empty":          {m, []api.Fact{}, 0, nil},
		"no places alone":          {m, []api.Fact{fact(1), {Key: []int{}, V: 2}}, 0, nil},
		"no places, of nobody":     {m, []api.Fact{fact(1), {Key: []int{}, V: 2}}, -1, nil},
		"no spans":                 {mapOf(1), l, -1, slices.Concat(l[:2], l[3:])},
		"no spans, a node":         {mapOf(1), l, 0, nil},
		"the first place alone":    {m, []api.Fact{fact(1, 0, 30), fact(2, 30, 0)}, 1, []api.Fact{fact(2, 30, 0)}},
		"one fact twice":           {m, []api.Fact{l[1], l[1]}, 1, []api.Fact{l[1], l[1]}},
		"a node below 0":           {mapOf(1, 0, -1, 10, -5), []api.Fact{fact(1, 5), fact(2, 10), fact(3, -2)}, -1, []api.Fact{fact(1, 5), fact(3, -2)}},
		"another node below 0":     {mapOf(1, 0, -1, 10, -5), []api.Fact{fact(1, 5), fact(2, 10), fact(3, -2)}, -5, []api.Fact{fact(2, 10)}},
		"a node above 5":           {mapOf(1, 0, 99), []api.Fact{fact(1, 5)}, 99, []api.Fact{fact(1, 5)}},
		"Froms in any order":       {mapOf(1, 20, 1, 10, 2), []api.Fact{fact(1, 25), fact(2, 9), fact(3, 10)}, 2, []api.Fact{fact(1, 25), fact(3, 10)}},
		"numbers of any size":      {m, []api.Fact{fact(math.MinInt64, 0), fact(math.MaxInt64, 1), fact(0, 2)}, 0, []api.Fact{fact(math.MinInt64, 0), fact(math.MaxInt64, 1), fact(0, 2)}},
		"members of any size":      {m, []api.Fact{fact(1, math.MinInt), fact(2, math.MaxInt, math.MinInt)}, 0, []api.Fact{fact(2, math.MaxInt, math.MinInt)}},
		"members below all":        {m, []api.Fact{fact(1, math.MinInt), fact(2, math.MaxInt)}, -1, []api.Fact{fact(1, math.MinInt)}},
		"keys of very many places": {m, []api.Fact{{Key: make([]int, 1000), V: 5}}, 0, []api.Fact{{Key: make([]int, 1000), V: 5}}},
	} {
		if got := Parts(c.m, c.l, c.node); !areFacts(got, c.want) {
			t.Errorf("%s: %v, not %v", name, got, c.want)
		}
	}
}

func TestPartsOfAny(t *testing.T) {
	r := rand.New(rand.NewSource(1))
	for range 3000 {
		m := anyMap(r)
		l := anyFacts(r)
		for node := -2; node <= 7; node++ {
			if got, want := Parts(m, l, node), parts(m, l, node); !areFacts(got, want) {
				t.Fatalf("%v: %v: of %d: %v, not %v", m.L, l, node, got, want)
			}
		}
	}
}

// Whatever the map, each fact with a place is one node's, or nobody's, and each part keeps the order.
func TestPartsAreAll(t *testing.T) {
	r := rand.New(rand.NewSource(2))
	for range 500 {
		m := anySound(r, 50, 6)
		var l []api.Fact
		for i := range r.Intn(300) {
			l = append(l, fact(int64(i), r.Intn(50), r.Intn(9)))
		}
		n := 0
		for node := range 6 {
			part := Parts(m, l, node)
			for i, f := range part {
				if i > 0 && f.V <= part[i-1].V {
					t.Fatalf("%v: of %d: order: %v", m.L, node, part)
				}
				if find(m, f.Key[0]) != node || !reflect.DeepEqual(f, l[f.V]) {
					t.Fatalf("%v: of %d: %v", m.L, node, f)
				}
			}
			n += len(part)
		}
		if n != len(l) {
			t.Fatalf("%v: %d of %d", m.L, n, len(l))
		}
	}
}

// Nodes.

func TestNodes(t *testing.T) {
	m := mapOf(2, 0, 3, 30, 1, 60, 0, 90, 3)
	for name, c := range map[string]struct {
		m        api.Map
		from, to int
		want     []int
	}{
		"all":                             {m, 0, 100, []int{0, 1, 3}},
		"from below 0":                    {m, -1, 100, []int{0, 1, 3}},
		"from far below 0":                {m, math.MinInt, 31, []int{1, 3}},
		"to above all":                    {m, 60, 10001, []int{0, 3}},
		"to far above all":                {m, 60, math.MaxInt, []int{0, 3}},
		"any":                             {m, math.MinInt, math.MaxInt, []int{0, 1, 3}},
		"one member":                      {m, 30, 31, []int{1}},
		"ends where a span does":          {m, 30, 60, []int{1}},
		"ends behind it":                  {m, 30, 61, []int{0, 1}},
		"begins ahead of it":              {m, 29, 60, []int{1, 3}},
		"within two":                      {m, 29, 31, []int{1, 3}},
		"the last member of a span":       {m, 29, 30, []int{3}},
		"one node twice":                  {m, 0, 91, []int{0, 1, 3}},
		"the last span alone":             {m, 90, 91, []int{3}},
		"behind the last From":            {m, 95, 99, []int{3}},
		"the last member":                 {m, 9999, 10000, []int{3}},
		"the last member, to above":       {m, 9999, 20000, []int{3}},
		"none: at 10000":                  {m, 10000, 10001, nil},
		"none: above 10000":               {m, 10000, math.MaxInt, nil},
		"none: far above":                 {m, 20000, 30000, nil},
		"none: alike":                     {m, 30, 30, nil},
		"none: alike at 0":                {m, 0, 0, nil},
		"none: falling":                   {m, 60, 30, nil},
		"none: below 0":                   {m, -10, 0, nil},
		"none: all below 0":               {m, -10, -5, nil},
		"none: extremes, falling":         {m, math.MaxInt, math.MinInt, nil},
		"none: least alike":               {m, math.MinInt, math.MinInt, nil},
		"0 alone":                         {m, -10, 1, []int{3}},
		"no spans":                        {mapOf(1), 0, 10000, nil},
		"begins late":                     {mapOf(1, 50, 2), 0, 50, nil},
		"begins late, within":             {mapOf(1, 50, 2), 0, 51, []int{2}},
		"begins below 0":                  {mapOf(1, -50, 2), -50, 1, []int{2}},
		"a span below 0 alone":            {mapOf(1, -50, 2, 0, 1), -50, 1, []int{1}},
		"begins at 10000":                 {mapOf(1, 0, 2, 10000, 1), 0, 20000, []int{2}},
		"begins at 9999":                  {mapOf(1, 0, 2, 9999, 1), 0, 20000, []int{1, 2}},
		"nodes below 0 and above 5":       {mapOf(1, 0, -1, 10, 6, 20, 5, 30, math.MinInt, 40, 0, 50, math.MaxInt), 0, 100, []int{0, 5}},
		"nodes below 0 and above 5 alone": {mapOf(1, 0, -1, 10, 6), 0, 100, nil},
		"nodes 0 to 5":                    {mapOf(1, 0, 5, 1, 4, 2, 3, 3, 2, 4, 1, 5, 0), 0, 6, []int{0, 1, 2, 3, 4, 5}},
		"falling: the last has all":       {mapOf(1, 20, 1, 10, 2), 0, 100, []int{2}},
		"falling, then rising":            {mapOf(1, 20, 1, 10, 2, 30, 0), 0, 100, []int{0, 2}},
		"hidden by one that begins as it": {mapOf(1, 0, 1, 0, 2), 0, 100, []int{2}},
		"hidden by one that stands later": {mapOf(1, 0, 0, 5, 1, 5, 2, 3, 4, 9, 5), 0, 100, []int{0, 4, 5}},
	} {
		if got := Nodes(c.m, c.from, c.to); !slices.Equal(got, c.want) {
			t.Errorf("%s: %v, not %v", name, got, c.want)
		}
	}
}

func TestNodesOfAnyFewSpans(t *testing.T) {
	eachMap(3, []int{-1, 0, 1, 3}, []int{-1, 0, 2, 5, 6}, func(m api.Map) {
		holds := [5]int{}
		for member := range holds {
			holds[member] = find(m, member)
		}
		for from := -2; from <= 5; from++ {
			for to := -2; to <= 5; to++ {
				var want []int
				for node := range 6 {
					if from < to && slices.Contains(holds[max(from, 0):max(from, to, 0)], node) {
						want = append(want, node)
					}
				}
				if got := Nodes(m, from, to); !slices.Equal(got, want) {
					t.Fatalf("%v: %d to %d: %v, not %v", m.L, from, to, got, want)
				}
			}
		}
	})
}

func TestNodesOfAny(t *testing.T) {
	r := rand.New(rand.NewSource(3))
	for range 1500 {
		m := anyMap(r)
		from, to := near(r, m), near(r, m)
		if got, want := Nodes(m, from, to), nodesOf(m, from, to); !slices.Equal(got, want) {
			t.Fatalf("%v: %d to %d: %v, not %v", m.L, from, to, got, want)
		}
	}
	for range 200 {
		m := anySound(r, 10000, 6)
		from, to := near(r, m), near(r, m)
		if got, want := Nodes(m, from, to), nodesOf(m, from, to); !slices.Equal(got, want) {
			t.Fatalf("%v: %d to %d: %v, not %v", m.L, from, to, got, want)
		}
	}
}

// The order in which a map is gone through is any: none of it may be told.
func TestNodesAlwaysRise(t *testing.T) {
	m := mapOf(1, 0, 5, 1, 0, 2, 4, 3, 1, 4, 3, 5, 2, 6, 9, 7, 5)
	for range 200 {
		if got := Nodes(m, 0, 100); !slices.Equal(got, []int{0, 1, 2, 3, 4, 5}) {
			t.Fatalf("%v", got)
		}
	}
}

// A map of more spans than any has is told of, too, in bounded time.
func TestVeryManySpans(t *testing.T) {
	m := striped(100000, 1, 3, -2, 7, 5, 0)
	if got := Nodes(m, 0, 10000); !slices.Equal(got, []int{0, 3, 5}) {
		t.Errorf("Nodes: %v", got)
	}
	if Sound(m, 200000, 6) || Find(m, 99997) != 7 || Find(m, -1) != -1 {
		t.Error("Sound, Find")
	}
	if _, e := Split(m, 10000, 6, 0, 5, 1); e != api.ErrSpan {
		t.Errorf("Split: %v", e)
	}
	if got := Parts(m, []api.Fact{fact(1, 8), fact(2, 3), fact(3, 99998)}, 5); !areFacts(got, []api.Fact{fact(1, 8), fact(2, 3), fact(3, 99998)}) {
		t.Errorf("Parts: %v", got)
	}
}

// Split.

func TestSplit(t *testing.T) {
	two := mapOf(7, 0, 0, 50, 1)
	four := mapOf(7, 0, 0, 20, 1, 40, 0, 60, 2)
	for name, c := range map[string]struct {
		m              api.Map
		from, to, node int
		want           []api.Span
	}{
		"within a span":                              {two, 10, 20, 2, of(0, 0, 10, 2, 20, 0, 50, 1)},
		"within the last span":                       {two, 60, 70, 0, of(0, 0, 50, 1, 60, 0, 70, 1)},
		"one member":                                 {two, 10, 11, 1, of(0, 0, 10, 1, 11, 0, 50, 1)},
		"member 0":                                   {two, 0, 1, 2, of(0, 2, 1, 0, 50, 1)},
		"the last member":                            {two, 99, 100, 2, of(0, 0, 50, 1, 99, 2)},
		"begins where a span does":                   {two, 50, 60, 2, of(0, 0, 50, 2, 60, 1)},
		"ends where a span does":                     {two, 40, 50, 2, of(0, 0, 40, 2, 50, 1)},
		"a whole span":                               {four, 20, 40, 2, of(0, 0, 20, 2, 40, 0, 60, 2)},
		"a whole span between two of node":           {four, 20, 40, 0, of(0, 0, 60, 2)},
		"the first span, to the next one's":          {two, 0, 50, 1, of(0, 1)},
		"the last span, to the one ahead":            {two, 50, 100, 0, of(0, 0)},
		"the first span, to another":                 {two, 0, 50, 2, of(0, 2, 50, 1)},
		"the last span, to another":                  {two, 50, 100, 2, of(0, 0, 50, 2)},
		"from 0, within":                             {two, 0, 20, 1, of(0, 1, 20, 0, 50, 1)},
		"to size, within":                            {two, 80, 100, 0, of(0, 0, 50, 1, 80, 0)},
		"next to node's, ahead":                      {two, 50, 60, 0, of(0, 0, 60, 1)},
		"next to node's, behind":                     {two, 40, 50, 1, of(0, 0, 40, 1)},
		"next to another's on both sides":            {four, 40, 60, 3, of(0, 0, 20, 1, 40, 3, 60, 2)},
		"over two, of a third":                       {two, 40, 60, 2, of(0, 0, 40, 2, 60, 1)},
		"over two, begins in node's":                 {two, 40, 60, 0, of(0, 0, 60, 1)},
		"over two, ends in node's":                   {two, 40, 60, 1, of(0, 0, 40, 1)},
		"over three, node's in the midst":            {four, 10, 50, 1, of(0, 0, 10, 1, 50, 0, 60, 2)},
		"over three, node's at both ends":            {four, 10, 50, 0, of(0, 0, 60, 2)},
		"over all, within":                           {four, 10, 70, 3, of(0, 0, 10, 3, 70, 2)},
		"over all but the ends, of the last's node":  {four, 10, 70, 2, of(0, 0, 10, 2)},
		"over all but the ends, of the first's node": {four, 10, 70, 0, of(0, 0, 70, 2)},
		"all":                               {four, 0, 100, 4, of(0, 4)},
		"all, to one who has some":          {four, 0, 100, 1, of(0, 1)},
		"all, to the first":                 {four, 0, 100, 0, of(0, 0)},
		"all, to the last":                  {four, 0, 100, 2, of(0, 2)},
		"all behind some":                   {four, 30, 100, 0, of(0, 0, 20, 1, 30, 0)},
		"all ahead of some":                 {four, 0, 50, 2, of(0, 2, 50, 0, 60, 2)},
		"begins with node's own":            {two, 20, 60, 0, of(0, 0, 60, 1)},
		"node's own up to the last member":  {two, 0, 51, 0, of(0, 0, 51, 1)},
		"node's own from the second member": {two, 49, 100, 1, of(0, 0, 49, 1)},
		"to the last node":                  {two, 10, 20, 5, of(0, 0, 10, 5, 20, 0, 50, 1)},
	} {
		got, e := Split(c.m, 100, 6, c.from, c.to, c.node)
		if want := (api.Map{Epoch: 8, L: c.want}); e != api.OK || !isMap(got, want) {
			t.Errorf("%s: %v, %v, not %v", name, got, e, want)
		}
	}
}

func TestSplitAtTheLimits(t *testing.T) {
	for name, c := range map[string]struct {
		m                           api.Map
		size, nodes, from, to, node int
		want                        []api.Span
	}{
		"size 1":               {mapOf(4, 0, 0), 1, 2, 0, 1, 1, of(0, 1)},
		"size 2, the first":    {mapOf(4, 0, 0), 2, 2, 0, 1, 1, of(0, 1, 1, 0)},
		"size 2, the last":     {mapOf(4, 0, 0), 2, 2, 1, 2, 1, of(0, 0, 1, 1)},
		"size 10000":           {mapOf(4, 0, 0), 10000, 2, 9999, 10000, 1, of(0, 0, 9999, 1)},
		"size 10000, all":      {mapOf(4, 0, 0), 10000, 2, 0, 10000, 1, of(0, 1)},
		"more nodes than hold": {mapOf(4, 0, 0), 10, math.MaxInt, 5, 10, 5, of(0, 0, 5, 5)},
		"node below nodes":     {mapOf(4, 0, 0), 10, 3, 5, 10, 2, of(0, 0, 5, 2)},
	} {
		got, e := Split(c.m, c.size, c.nodes, c.from, c.to, c.node)
		if want := (api.Map{Epoch: 5, L: c.want}); e != api.OK || !isMap(got, want) {
			t.Errorf("%s: %v, %v, not %v", name, got, e, want)
		}
	}
}

func refused(t *testing.T, name string, m api.Map, size, nodes, from, to, node int, want api.Errno) {
	t.Helper()
	if got, e := Split(m, size, nodes, from, to, node); e != want || got.Epoch != 0 || len(got.L) != 0 {
		t.Errorf("%s: %v, %v, not %v", name, got, e, want)
	}
}

// Each reason stands alone: but for one number each of these would be done.
func TestSplitRefuses(t *testing.T) {
	for name, c := range map[string]struct {
		m                           api.Map
		size, nodes, from, to, node int
	}{
		"no spans":              {mapOf(1), 100, 3, 30, 60, 2},
		"first From":            {mapOf(1, 1, 0, 50, 1), 100, 3, 30, 60, 2},
		"first From below 0":    {mapOf(1, -1, 0, 50, 1), 100, 3, 30, 60, 2},
		"Froms alike":           {mapOf(1, 0, 0, 50, 1, 50, 0), 100, 3, 30, 60, 2},
		"Froms falling":         {mapOf(1, 0, 0, 50, 1, 40, 0), 100, 3, 30, 60, 2},
		"From at size":          {mapOf(1, 0, 0, 100, 1), 100, 3, 30, 60, 2},
		"one node side by side": {mapOf(1, 0, 0, 50, 0), 100, 3, 30, 60, 2},
		"one node within":       {mapOf(1, 0, 1, 40, 0, 50, 0), 100, 3, 30, 60, 2},
		"Node below 0":          {mapOf(1, 0, 0, 50, -1), 100, 3, 30, 60, 2},
		"Node at nodes":         {mapOf(1, 0, 0, 50, 3), 100, 3, 30, 60, 2},
		"Node 6":                {mapOf(1, 0, 0, 50, 6), 100, 7, 30, 60, 2},
		"41 spans":              {striped(41, 2, 0, 1), 100, 3, 0, 100, 2},
		"size 0":                {New(), 0, 3, 0, 0, 2},
		"size 0, to 1":          {New(), 0, 3, 0, 1, 2},
		"size -1":               {New(), -1, 3, 0, 1, 2},
		"size 10001":            {New(), 10001, 3, 30, 60, 2},
		"size 10001, all":       {New(), 10001, 3, 0, 10001, 2},
		"the greatest size":     {New(), math.MaxInt, 3, 30, math.MaxInt, 2},
		"from below 0":          {New(), 100, 3, -1, 60, 2},
		"from far below 0":      {New(), 100, 3, math.MinInt, 60, 2},
		"from at to":            {New(), 100, 3, 60, 60, 2},
		"from at to, 0":         {New(), 100, 3, 0, 0, 2},
		"from at to, size":      {New(), 100, 3, 100, 100, 2},
		"from above to":         {New(), 100, 3, 61, 60, 2},
		"to above size":         {New(), 100, 3, 30, 101, 2},
		"to far above size":     {New(), 100, 3, 30, math.MaxInt, 2},
		"both above size":       {New(), 100, 3, 100, 101, 2},
		"both below 0":          {New(), 100, 3, -5, -2, 2},
		"to below 0":            {New(), 100, 3, 30, -2, 2},
		"node below 0":          {New(), 100, 3, 30, 60, -1},
		"node far below 0":      {New(), 100, 3, 30, 60, math.MinInt},
		"node at nodes":         {New(), 100, 3, 30, 60, 3},
		"node above nodes":      {New(), 100, 3, 30, 60, 4},
		"node 6 of 7":           {New(), 100, 7, 30, 60, 6},
		"node 6 of any":         {New(), 100, math.MaxInt, 30, 60, 6},
		"no nodes":              {New(), 100, 0, 30, 60, 0},
		"nodes below 0":         {New(), 100, -1, 30, 60, -2},
		"node's within":         {mapOf(1, 0, 0, 20, 2, 70, 1), 100, 3, 30, 60, 2},
		"node's, a whole span":  {mapOf(1, 0, 0, 20, 2, 70, 1), 100, 3, 20, 70, 2},
		"node's, one member":    {mapOf(1, 0, 0, 20, 2, 21, 1), 100, 3, 20, 21, 2},
		"node's, the first":     {mapOf(1, 0, 0, 20, 2), 100, 3, 0, 20, 0},
		"node's, the last":      {mapOf(1, 0, 0, 20, 2), 100, 3, 20, 100, 2},
		"all node's":            {New(), 100, 3, 0, 100, 0},
	} {
		refused(t, name, c.m, c.size, c.nodes, c.from, c.to, c.node, api.ErrSpan)
	}
}

// The same where what comes of it would have too many spans: ErrSpan is named first.
func TestSplitRefusesAheadOfTheLimit(t *testing.T) {
	full := striped(40, 10, 0, 1)
	refused(t, "that it is too many", full, 400, 3, 11, 15, 2, api.ErrLimit)
	wrong := func(change func(l []api.Span)) api.Map {
		m := copyOf(full)
		change(m.L)
		return m
	}
	for name, c := range map[string]struct {
		m                           api.Map
		size, nodes, from, to, node int
	}{
		"first From":            {wrong(func(l []api.Span) { l[0].From = 1 }), 400, 3, 11, 15, 2},
		"first From below 0":    {wrong(func(l []api.Span) { l[0].From = -1 }), 400, 3, 11, 15, 2},
		"Froms alike":           {wrong(func(l []api.Span) { l[20].From = l[21].From }), 400, 3, 11, 15, 2},
		"Froms falling":         {wrong(func(l []api.Span) { l[20].From = l[21].From + 1 }), 400, 3, 11, 15, 2},
		"From at size":          {full, 390, 3, 11, 15, 2},
		"From above size":       {full, 200, 3, 11, 15, 2},
		"one node side by side": {wrong(func(l []api.Span) { l[20].Node = 1 }), 400, 3, 11, 15, 2},
		"Node below 0":          {wrong(func(l []api.Span) { l[20].Node = -1 }), 400, 3, 11, 15, 2},
		"Node at nodes":         {wrong(func(l []api.Span) { l[20].Node = 3 }), 400, 3, 11, 15, 2},
		"Node 6":                {wrong(func(l []api.Span) { l[20].Node = 6 }), 400, 7, 11, 15, 2},
		"41 spans":              {striped(41, 10, 0, 1), 410, 3, 11, 15, 2},
		"41 spans, 41 after":    {striped(41, 10, 0, 1), 410, 3, 10, 20, 2},
		"size below 1":          {full, 0, 3, 11, 15, 2},
		"size 10001":            {full, 10001, 3, 11, 15, 2},
		"from below 0":          {full, 400, 3, -1, 5, 2},
		"from at to":            {full, 400, 3, 15, 15, 2},
		"from above to":         {full, 400, 3, 16, 15, 2},
		"to above size":         {full, 400, 3, 395, 401, 2},
		"node below 0":          {full, 400, 3, 11, 15, -1},
		"node at nodes":         {full, 400, 3, 11, 15, 3},
		"node 6 of 7":           {full, 400, 7, 11, 15, 6},
		"no nodes":              {full, 400, 0, 11, 15, 2},
		"node's":                {full, 400, 3, 11, 15, 1},
		"node's, from a From":   {full, 400, 3, 10, 15, 1},
		"node's, to a From":     {full, 400, 3, 15, 20, 1},
	} {
		refused(t, name, c.m, c.size, c.nodes, c.from, c.to, c.node, api.ErrSpan)
	}
}

func TestSplitOfManySpans(t *testing.T) {
	for name, c := range map[string]struct {
		n, from, to, node int
		want              int // spans; above 40 none
	}{
		"40: within":                          {40, 11, 15, 2, 42},
		"40: within, of a neighbour's node":   {40, 11, 15, 0, 42},
		"40: within the first":                {40, 1, 5, 1, 42},
		"40: within the last":                 {40, 391, 395, 0, 42},
		"40: begins with a span":              {40, 10, 15, 2, 41},
		"40: ends with a span":                {40, 15, 20, 2, 41},
		"40: from 0":                          {40, 0, 5, 2, 41},
		"40: from 0, of the next one's":       {40, 0, 5, 1, 41},
		"40: to size":                         {40, 395, 400, 2, 41},
		"40: to size, of the one's ahead":     {40, 395, 400, 0, 41},
		"40: a whole span":                    {40, 10, 20, 2, 40},
		"40: the first":                       {40, 0, 10, 2, 40},
		"40: the last":                        {40, 390, 400, 2, 40},
		"40: a whole span, between node's":    {40, 10, 20, 0, 38},
		"40: begins with a span behind its":   {40, 10, 15, 0, 40},
		"40: ends with a span ahead of its":   {40, 15, 20, 0, 40},
		"40: the first, ahead of its":         {40, 0, 10, 1, 39},
		"40: the last, behind its":            {40, 390, 400, 0, 39},
		"40: over two, within":                {40, 15, 25, 2, 41},
		"40: over two, from its own":          {40, 15, 25, 1, 40},
		"40: over two, to its own":            {40, 15, 25, 0, 40},
		"40: over two, from a From":           {40, 10, 25, 2, 40},
		"40: over three, within":              {40, 15, 35, 2, 40},
		"40: over four, within":               {40, 15, 45, 2, 39},
		"40: all":                             {40, 0, 400, 2, 1},
		"40: all but a member at either end":  {40, 1, 399, 2, 3},
		"39: begins with a span":              {39, 10, 15, 2, 40},
		"39: within":                          {39, 11, 15, 2, 41},
		"39: within, of a neighbour's":        {39, 11, 15, 0, 41},
		"39: from 0":                          {39, 0, 5, 2, 40},
		"39: to size":                         {39, 385, 390, 2, 40},
		"39: a whole span":                    {39, 10, 20, 2, 39},
		"38: within":                          {38, 11, 15, 2, 40},
		"38: within, of a neighbour's":        {38, 11, 15, 0, 40},
		"38: within the last":                 {38, 371, 379, 0, 40},
		"1: within":                           {1, 5, 6, 2, 3},
		"2: the border, one member each side": {2, 9, 11, 2, 3},
	} {
		m, size := striped(c.n, 10, 0, 1), c.n*10
		got, e := Split(m, size, 3, c.from, c.to, c.node)
		if c.want > 40 {
			if e != api.ErrLimit || got.Epoch != 0 || len(got.L) != 0 {
				t.Errorf("%s: %v, %v", name, got, e)
			}
		} else if want, _ := split(m, size, 3, c.from, c.to, c.node); e != api.OK || len(got.L) != c.want || !isMap(got, want) {
			t.Errorf("%s: %d spans: %v, %v, not %v", name, len(got.L), got, e, want)
		}
	}
}

func TestSplitCountsTheEpoch(t *testing.T) {
	for from, want := range map[uint32]uint32{0: 1, 1: 2, 2: 3, 255: 256, 65535: 65536, math.MaxInt32: math.MaxInt32 + 1, math.MaxUint32 - 1: math.MaxUint32, math.MaxUint32: 0} {
		m, e := Split(mapOf(from, 0, 0), 100, 2, 30, 60, 1)
		if e != api.OK || !isMap(m, mapOf(want, 0, 0, 30, 1, 60, 0)) {
			t.Errorf("%d: %v, %v", from, m, e)
		}
	}
}

// holdsAsAsked says what is wrong with a map that a split gave: each member is the node's it was, or is asked to be.
func holdsAsAsked(before, after api.Map, size, nodes, from, to, node int) string {
	if after.Epoch != before.Epoch+1 {
		return "the epoch"
	}
	if !Sound(after, size, nodes) {
		return "it isn't sound"
	}
	for member := range size {
		want := find(before, member)
		if from <= member && member < to {
			want = node
		}
		if Find(after, member) != want {
			return fmt.Sprintf("%d is %d's, not %d's", member, Find(after, member), want)
		}
	}
	return ""
}

// splits asks for a split, and holds it against the chapter's words.
func splits(t *testing.T, m api.Map, size, nodes, from, to, node int) (api.Map, api.Errno) {
	t.Helper()
	got, e := Split(m, size, nodes, from, to, node)
	if want, wanted := split(m, size, nodes, from, to, node); e != wanted || !isMap(got, want) {
		t.Fatalf("%v, %d, %d: %d to %d to %d: %v, %v, not %v, %v", m, size, nodes, from, to, node, got, e, want, wanted)
	}
	if e != api.OK {
		return got, e
	}
	if wrong := holdsAsAsked(m, got, size, nodes, from, to, node); wrong != "" {
		t.Fatalf("%v, %d, %d: %d to %d to %d: %v: %s", m, size, nodes, from, to, node, got, wrong)
	}
	return got, e
}

// painted is the map in which each member is the node's that a number says, to the base of how many nodes there are.
func painted(number, size, nodes int) api.Map {
	m := api.Map{Epoch: 5}
	for member := range size {
		node := number % nodes
		number /= nodes
		if n := len(m.L); n == 0 || m.L[n-1].Node != node {
			m.L = append(m.L, api.Span{From: member, Node: node})
		}
	}
	return m
}

func power(base, n int) int {
	out := 1
	for range n {
		out *= base
	}
	return out
}

// All maps of few members and nodes, all splits of them.
func TestSplitsOfAllMapsOfFewMembers(t *testing.T) {
	seen := map[api.Errno]int{}
	for size := 1; size <= 6; size++ {
		for nodes := 1; nodes <= 3; nodes++ {
			for number := range power(nodes, size) {
				m := painted(number, size, nodes)
				for from := -1; from <= size+1; from++ {
					for to := -1; to <= size+1; to++ {
						for node := -1; node <= nodes; node++ {
							_, e := splits(t, m, size, nodes, from, to, node)
							seen[e]++
						}
					}
				}
			}
		}
	}
	if seen[api.OK] < 1000 || seen[api.ErrSpan] < 1000 {
		t.Errorf("few of a kind: %v", seen)
	}
}

// Maps that are mostly not sound are refused as they should be.
func TestSplitsOfAnyFewSpans(t *testing.T) {
	eachMap(3, []int{-1, 0, 1, 2}, []int{-1, 0, 1, 6}, func(m api.Map) {
		for _, c := range [][3]int{{0, 1, 0}, {0, 1, 1}, {1, 2, 0}, {1, 2, 1}, {0, 2, 1}, {2, 3, 0}, {0, 3, 6}, {-1, 1, 0}} {
			splits(t, m, 3, 2, c[0], c[1], c[2])
			splits(t, m, 2, 7, c[0], c[1], c[2])
		}
	})
}

func TestSplitsOfExtremes(t *testing.T) {
	for _, a := range extremes() {
		for _, b := range extremes() {
			for _, c := range extremes() {
				splits(t, mapOf(1, 0, 0, 50, 1), 100, 6, a, b, c)
				splits(t, mapOf(1, 0, 0, 50, 1), min(a, 10001), b, 0, 51, c)
				splits(t, mapOf(1, 0, 0, a, 1), 10000, 6, b, c, 2)
				splits(t, mapOf(1, 0, a, 50, b), 10000, c, 40, 60, 1)
			}
		}
	}
}

// Split behind split, as a map goes on: each comes of the one ahead.
func TestSplitsOneBehindAnother(t *testing.T) {
	seen := map[api.Errno]int{}
	most := 0
	for seed := range int64(400) {
		r := rand.New(rand.NewSource(seed))
		size, nodes := 1+r.Intn(200), 1+r.Intn(7)
		m := New()
		for range 150 {
			from, to := drawn(r, m, size), drawn(r, m, size)
			if r.Intn(20) > 0 { // mostly a few members, so that there come to be many spans
				to = from + r.Intn(5)
			}
			next, e := splits(t, m, size, nodes, from, to, r.Intn(nodes+2)-1)
			if seen[e]++; e == api.OK {
				m = next
			}
			most = max(most, len(m.L))
		}
	}
	if seen[api.OK] < 1000 || seen[api.ErrSpan] < 1000 || seen[api.ErrLimit] < 100 || most != 40 {
		t.Errorf("few of a kind: %v, %d spans", seen, most)
	}
}

func TestSplitsOfLargeMaps(t *testing.T) {
	r := rand.New(rand.NewSource(4))
	for range 300 {
		size, nodes := 9900+r.Intn(101), 1+r.Intn(6)
		m := anySound(r, size, nodes)
		splits(t, m, size, nodes, drawn(r, m, size), drawn(r, m, size), r.Intn(nodes))
	}
}

// Same.

func TestSame(t *testing.T) {
	m := mapOf(2, 0, 0, 30, 1, 60, 0)
	for name, c := range map[string]struct {
		a, b api.Map
		want bool
	}{
		"the same":             {m, mapOf(2, 0, 0, 30, 1, 60, 0), true},
		"itself":               {m, m, true},
		"the epoch":            {m, mapOf(3, 0, 0, 30, 1, 60, 0), false},
		"the epoch, far":       {m, mapOf(2+1<<16, 0, 0, 30, 1, 60, 0), false},
		"a From":               {m, mapOf(2, 0, 0, 31, 1, 60, 0), false},
		"the first From":       {m, mapOf(2, 1, 0, 30, 1, 60, 0), false},
		"the last From":        {m, mapOf(2, 0, 0, 30, 1, 61, 0), false},
		"a Node":               {m, mapOf(2, 0, 0, 30, 2, 60, 0), false},
		"the first Node":       {m, mapOf(2, 0, 3, 30, 1, 60, 0), false},
		"the last Node":        {m, mapOf(2, 0, 0, 30, 1, 60, 3), false},
		"one fewer":            {m, mapOf(2, 0, 0, 30, 1), false},
		"one more":             {m, mapOf(2, 0, 0, 30, 1, 60, 0, 90, 1), false},
		"one fewer at first":   {m, mapOf(2, 30, 1, 60, 0), false},
		"none":                 {m, mapOf(2), false},
		"none both":            {mapOf(2), mapOf(2), true},
		"zero both":            {api.Map{}, api.Map{}, true},
		"none, the epoch":      {mapOf(2), mapOf(1), false},
		"nil and empty":        {mapOf(2), api.Map{Epoch: 2, L: []api.Span{}}, true},
		"nil and empty, epoch": {mapOf(2), api.Map{Epoch: 3, L: []api.Span{}}, false},
		"empty both":           {api.Map{L: []api.Span{}}, api.Map{L: []api.Span{}}, true},
		"in another order":     {m, mapOf(2, 30, 1, 0, 0, 60, 0), false},
		"one told in two":      {mapOf(2, 0, 0), mapOf(2, 0, 0, 30, 0), false},
		"not sound, the same":  {mapOf(0, 5, -1, 5, 99), mapOf(0, 5, -1, 5, 99), true},
		"not sound, not so":    {mapOf(0, 5, -1, 5, 99), mapOf(0, 5, -1, 5, 98), false},
		"From and Node turned": {mapOf(1, 1, 0), mapOf(1, 0, 1), false},
	} {
		if got := Same(c.a, c.b); got != c.want {
			t.Errorf("%s: %v", name, got)
		}
		if got := Same(c.b, c.a); got != c.want {
			t.Errorf("%s, turned: %v", name, got)
		}
	}
}

func TestSameOfManySpans(t *testing.T) {
	for i := range 60 {
		a, b := striped(60, 3, 0, 1, 2), striped(60, 3, 0, 1, 2)
		if !Same(a, b) {
			t.Fatal("the same")
		}
		if b.L[i].From++; Same(a, b) || Same(b, a) {
			t.Errorf("From, at %d", i)
		}
		b.L[i].From--
		if b.L[i].Node += 3; Same(a, b) || Same(b, a) {
			t.Errorf("Node, at %d", i)
		}
		if b.L = slices.Delete(b.L, i, i+1); Same(a, b) || Same(b, a) {
			t.Errorf("without %d", i)
		}
	}
}

// What is handed in, and what comes out.

// hide is a list behind whose length something stands.
func hide[T any](l []T, behind ...T) []T {
	out := append(append(make([]T, 0, len(l)+len(behind)), l...), behind...)
	return out[:len(l)]
}

// spoil writes over a list, and over what lies behind its length.
func spoil[T any](l []T, with T) {
	l = l[:cap(l)]
	for i := range l {
		l[i] = with
	}
}

func spoilFacts(l []api.Fact) {
	for _, f := range l {
		spoil(f.Key, 77)
	}
	spoil(l, api.Fact{V: 88})
}

// hidden is a map behind whose spans stand others, that hold all, and would make it not sound, or longer.
func hidden(m api.Map) api.Map {
	m.L = hide(m.L, api.Span{From: 0, Node: 4}, api.Span{From: -5, Node: 9}, api.Span{From: 9, Node: 3})
	return m
}

func hiddenFacts(l []api.Fact) []api.Fact {
	var out []api.Fact
	for _, f := range l {
		out = append(out, api.Fact{Key: hide(f.Key, 0, 30, -1), V: f.V})
	}
	return hide(out, fact(99, 0), fact(98, 30))
}

func all[T any](l []T) []T { return l[:cap(l)] }

// Maps as they may come, sound and not.
func someMaps() map[string]api.Map {
	return map[string]api.Map{
		"new":        New(),
		"three":      mapOf(2, 0, 0, 30, 1, 60, 0),
		"forty":      striped(40, 2, 0, 1, 2),
		"no spans":   mapOf(1),
		"empty":      {Epoch: 1, L: []api.Span{}},
		"any order":  mapOf(3, 40, 1, 20, -2, 0, 7, 60, 5),
		"forty-one":  striped(41, 2, 0, 1),
		"below zero": mapOf(3, -9, 2, -4, 1),
	}
}

func TestWhatIsHandedInStays(t *testing.T) {
	facts := []api.Fact{fact(1, 70, 3), fact(2, 30), fact(3), fact(4, 0, 31), fact(5, -1)}
	for name, given := range someMaps() {
		m, l := hidden(given), hiddenFacts(facts)
		spans, keys := slices.Clone(all(m.L)), plain(all(l))
		Sound(m, 100, 6)
		Find(m, 31)
		Nodes(m, 0, 100)
		Same(m, hidden(given))
		Same(hidden(given), m)
		for node := -2; node < 8; node++ {
			Parts(m, l, node)
			for _, c := range [][2]int{{0, 100}, {0, 1}, {5, 6}, {29, 61}, {30, 60}, {99, 100}, {-1, 5}, {5, 5}} {
				Split(m, 100, 6, c[0], c[1], node)
			}
		}
		if !slices.Equal(all(m.L), spans) {
			t.Errorf("%s: spans were changed: %v", name, all(m.L))
		}
		if !areFacts(all(l), keys) || len(l) != len(facts) {
			t.Errorf("%s: facts were changed: %v", name, all(l))
		}
		for i, f := range l {
			if !slices.Equal(f.Key[len(f.Key):cap(f.Key)], []int{0, 30, -1}) {
				t.Errorf("%s: written behind key %d", name, i)
			}
		}
	}
}

func TestWhatLiesBehindIsNotRead(t *testing.T) {
	facts := []api.Fact{fact(1, 70, 3), fact(2, 30), fact(3), fact(4, 0, 31), fact(5, -1)}
	for name, m := range someMaps() {
		h := hidden(m)
		if Sound(h, 100, 6) != sound(m, 100, 6) || !Same(h, m) || !Same(m, h) {
			t.Errorf("%s: Sound, Same", name)
		}
		for member := -10; member < 110; member++ {
			if got := Find(h, member); got != find(m, member) {
				t.Errorf("%s: Find %d: %d", name, member, got)
			}
		}
		if got := Nodes(h, 0, 100); !slices.Equal(got, nodesOf(m, 0, 100)) {
			t.Errorf("%s: Nodes: %v", name, got)
		}
		for node := -2; node < 10; node++ {
			got := Parts(h, hiddenFacts(facts), node)
			if want := parts(m, facts, node); !areFacts(got, want) {
				t.Errorf("%s: Parts of %d: %v, not %v", name, node, got, want)
			}
			splits(t, h, 100, 6, 31, 62, node)
			splits(t, h, 100, 6, 80, 100, node)
		}
	}
}

// blank says whether nothing of what was handed in lies behind a list's length.
func blank[T comparable](l []T) bool {
	var zero T
	for _, v := range l[len(l):cap(l)] {
		if v != zero {
			return false
		}
	}
	return true
}

func TestNothingLiesBehindWhatComesOut(t *testing.T) {
	m := hidden(mapOf(2, 0, 0, 30, 1, 60, 5))
	for _, f := range Parts(m, hiddenFacts([]api.Fact{fact(1, 7, 3), fact(2, 30), fact(4, 5, 31, 9), fact(5, 1, 1, 1, 1)}), 0) {
		if !blank(f.Key) {
			t.Errorf("Parts: %v", all(f.Key))
		}
	}
	if l := Parts(m, hiddenFacts([]api.Fact{fact(1, 7), fact(2, 30)}), 0); slices.ContainsFunc(l[len(l):cap(l)], func(f api.Fact) bool { return f.V != 0 || f.Key != nil }) {
		t.Errorf("Parts: %v", all(l))
	}
	for node := range 6 {
		for _, c := range [][2]int{{0, 100}, {5, 6}, {29, 61}, {30, 60}, {60, 100}, {0, 30}} {
			got, _ := Split(m, 100, 6, c[0], c[1], node)
			if !blank(got.L) {
				t.Errorf("Split %v to %d: %v", c, node, all(got.L))
			}
		}
	}
}

func TestNewIsNewMemory(t *testing.T) {
	a, b := New(), New()
	spoil(a.L, api.Span{From: 7, Node: 7})
	if !isMap(b, mapOf(1, 0, 0)) || !isMap(New(), mapOf(1, 0, 0)) {
		t.Errorf("%v, %v", b, New())
	}
}

func TestPartsIsNewMemory(t *testing.T) {
	key := []int{5, 6}
	l := []api.Fact{{Key: key, V: 1}, fact(2, 7), {Key: key, V: 3}}
	want := []api.Fact{fact(1, 5, 6), fact(2, 7), fact(3, 5, 6)}
	a, b := Parts(New(), l, 0), Parts(New(), l, 0)
	spoilFacts(a)
	if !areFacts(l, want) || !areFacts(b, want) {
		t.Fatalf("what came out is written over: %v, %v", l, b)
	}
	spoil(b[0].Key, 77) // two facts that are handed in may share a key: those that come out may not
	if !areFacts(b[1:], want[1:]) {
		t.Errorf("two keys share memory: %v", b)
	}
	c := Parts(New(), l, 0)
	spoilFacts(l)
	if !areFacts(c, want) {
		t.Errorf("what was handed in is written over: %v", c)
	}
}

// Keys of one answer have no room in one another.
func TestPartsKeysStandApart(t *testing.T) {
	l := Parts(New(), []api.Fact{fact(1, 5), fact(2, 6), fact(3, 7, 8)}, 0)
	for i := range l {
		_ = append(l[i].Key, 77, 77, 77)
	}
	if !areFacts(l, []api.Fact{fact(1, 5), fact(2, 6), fact(3, 7, 8)}) {
		t.Errorf("%v", l)
	}
}

func TestNodesIsNewMemory(t *testing.T) {
	m := mapOf(2, 0, 0, 30, 1, 60, 3)
	a, b := Nodes(m, 0, 100), Nodes(m, 0, 100)
	spoil(a, 77)
	if !slices.Equal(b, []int{0, 1, 3}) || !slices.Equal(Nodes(m, 0, 100), []int{0, 1, 3}) || !isMap(m, mapOf(2, 0, 0, 30, 1, 60, 3)) {
		t.Errorf("%v, %v", b, m)
	}
}

func TestSplitIsNewMemory(t *testing.T) {
	given := mapOf(2, 0, 0, 30, 1, 60, 3)
	for _, c := range [][3]int{{0, 100, 0}, {0, 100, 5}, {0, 30, 1}, {0, 30, 2}, {10, 20, 1}, {30, 60, 0}, {30, 60, 3}, {40, 50, 2}, {60, 100, 1}, {60, 100, 2}, {70, 80, 0}, {99, 100, 0}, {0, 1, 3}} {
		m := api.Map{Epoch: 2, L: slices.Grow(slices.Clone(given.L), 20)}
		want, _ := split(m, 100, 6, c[0], c[1], c[2])
		a, _ := Split(m, 100, 6, c[0], c[1], c[2])
		b, _ := Split(m, 100, 6, c[0], c[1], c[2])
		spoil(a.L, api.Span{From: 77, Node: 77})
		if !isMap(m, given) || !isMap(b, want) {
			t.Errorf("%v: what came out is written over: %v, %v", c, m, b)
		}
		spoil(m.L, api.Span{From: 77, Node: 77})
		if !isMap(b, want) {
			t.Errorf("%v: what was handed in is written over: %v", c, b)
		}
	}
}

// Numbers that are drawn, from sources of fixed seeds.

// near is a number at one of a map's Froms, or beside it, or anywhere.
func near(r *rand.Rand, m api.Map) int {
	switch n := len(m.L); {
	case r.Intn(8) == 0:
		return extremes()[r.Intn(len(extremes()))]
	case n == 0 || r.Intn(4) == 0:
		return r.Intn(10200) - 100
	default:
		return m.L[r.Intn(n)].From + r.Intn(3) - 1
	}
}

// drawn is like it, and mostly a member.
func drawn(r *rand.Rand, m api.Map, size int) int {
	switch r.Intn(10) {
	case 0:
		return 0
	case 1:
		return size
	case 2:
		return r.Intn(size+3) - 1
	case 3, 4, 5:
		return r.Intn(size + 1)
	default:
		return m.L[r.Intn(len(m.L))].From + r.Intn(3) - 1
	}
}

// anyMap is one of few spans in any order, with nodes that may be wrong.
func anyMap(r *rand.Rand) api.Map {
	m := api.Map{Epoch: r.Uint32()}
	wide := []int{4, 40, 11000}[r.Intn(3)]
	for range r.Intn(8) {
		m.L = append(m.L, api.Span{From: r.Intn(wide+4) - 3, Node: r.Intn(9) - 2})
	}
	if r.Intn(2) == 0 {
		slices.SortFunc(m.L, func(a, b api.Span) int { return a.From - b.From })
	}
	return m
}

// anySound is a sound map of up to 40 spans.
func anySound(r *rand.Rand, size, nodes int) api.Map {
	m := api.Map{Epoch: r.Uint32(), L: []api.Span{{Node: r.Intn(nodes)}}}
	for range 1 + r.Intn(39) {
		last := m.L[len(m.L)-1]
		from, node := last.From+1+r.Intn(1+size/30), r.Intn(nodes)
		if from < size && node != last.Node {
			m.L = append(m.L, api.Span{From: from, Node: node})
		}
	}
	return m
}

func anyFacts(r *rand.Rand) []api.Fact {
	var l []api.Fact
	for range r.Intn(12) {
		f := api.Fact{V: r.Int63()}
		for range r.Intn(4) {
			f.Key = append(f.Key, r.Intn(50)-5)
		}
		l = append(l, f)
	}
	return l
}

// FuzzSpans makes a map, facts and numbers of any bytes, and holds each call against the chapter's words.
func FuzzSpans(f *testing.F) {
	f.Add([]byte{0, 0, 30, 1, 60, 0}, uint32(2), 100, 2, 30, 60, 1)
	f.Add([]byte{0, 0, 50, 1}, uint32(math.MaxUint32), 100, 6, 0, 100, 5)
	f.Add([]byte{}, uint32(0), 0, 0, 0, 0, -1)
	f.Add([]byte{20, 1, 10, 2}, uint32(0), 10000, 7, -1, 10001, 6)
	f.Fuzz(func(t *testing.T, b []byte, epoch uint32, size, nodes, from, to, node int) {
		m := api.Map{Epoch: epoch}
		var l []api.Fact
		at := 0
		for i := 0; i+1 < len(b) && i < 160; i += 2 {
			at += int(int8(b[i])) * (1 + int(b[i+1]/16)*20)
			m.L = append(m.L, api.Span{From: at, Node: int(b[i+1]%16) - 4})
			l = append(l, fact(int64(i), at+i%5-2), fact(int64(i), i, at))
		}
		if got := Sound(m, size, nodes); got != sound(m, size, nodes) {
			t.Errorf("Sound: %v", got)
		}
		for _, member := range []int{size, nodes, from, to, node} {
			if got := Find(m, member); got != find(m, member) {
				t.Errorf("Find %d: %d", member, got)
			}
		}
		if got := Parts(m, l, node); !areFacts(got, parts(m, l, node)) {
			t.Errorf("Parts: %v", got)
		}
		if got := Nodes(m, from, to); !slices.Equal(got, nodesOf(m, from, to)) {
			t.Errorf("Nodes: %v", got)
		}
		if !Same(m, copyOf(m)) || Same(m, api.Map{Epoch: epoch + 1, L: m.L}) || Same(m, api.Map{Epoch: epoch, L: append(copyOf(m).L, api.Span{})}) {
			t.Error("Same")
		}
		splits(t, m, size, nodes, from, to, node)
	})
}
