// Package cell is layer 1: see shared/doc/01-cell.md.
package cell

import "stratum/api"

// held is a cell that tells of itself; api's type, being given, has no methods.
type held struct {
	api.Cell
}

func (h held) empty() bool { return h.N == 0 }

func (h held) ordered() bool { return h.Min <= h.Max }

// pile is a cell that grows by others. It embeds held, so that what it has come to is asked as any cell is.
type pile struct {
	held
}

// take merges a cell into the pile. Which side has no numbers must be told first: its Min and Max are noughts that no number stands for.
func (p *pile) take(c held) {
	switch {
	case p.empty():
		p.held = c
	case c.empty():
	default:
		p.N += c.N
		p.Sum += c.Sum
		p.Min = min(p.Min, c.Min)
		p.Max = max(p.Max, c.Max)
	}
}

// Of is the cell of one number.
func Of(v int64) api.Cell { return api.Cell{N: 1, Sum: v, Min: v, Max: v} }

// All is the cell of many numbers; of none it is the zero value.
func All(l []int64) api.Cell {
	var p pile
	for _, v := range l {
		p.take(held{Of(v)})
	}
	return p.Cell
}

// Merge is the cell of two cells' numbers. It takes cells that are not sound as they are: whether one may be, only Sound says.
func Merge(a, b api.Cell) api.Cell {
	p := pile{held{a}}
	p.take(held{b})
	return p.Cell
}

// Sound says whether a cell may be. With two numbers or more any Sum may be, since sums go round modulo 2^64.
func Sound(c api.Cell) bool {
	switch c.N {
	case 0:
		return c == api.Cell{}
	case 1:
		return c == Of(c.Sum)
	}
	return c.N > 0 && held{c}.ordered()
}
