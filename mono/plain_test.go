package mono

import (
	"slices"

	"gridiron/api"
)

// Which way a tree goes is held here against parts that are made along with whether they may rise, and whether they may fall:
// a way is these two together, what is joined may do what one of all may, and what is flipped may do the other one.

const (
	most  = 1<<63 - 1
	least = -1 << 63
)

// drift is what may become of a value.
type drift struct{ rises, falls bool }

// wild is the drift of what may do both.
func wild() drift { return drift{true, true} }

// calm tells whether nothing may become of a value.
func (d drift) calm() bool { return !d.rises && !d.falls }

// back is the drift of 0 less a value.
func (d drift) back() drift { return drift{d.falls, d.rises} }

// or is the drift of what may do what one of two may.
func (d drift) or(e drift) drift { return drift{d.rises || e.rises, d.falls || e.falls} }

// way is a drift's.
func (d drift) way() Way {
	return map[drift]Way{{}: Still, {rises: true}: Up, {falls: true}: Down, wild(): Any}[d]
}

// drifting is a way's drift.
func drifting(w Way) drift {
	for _, d := range []drift{{}, {rises: true}, {falls: true}} {
		if d.way() == w {
			return d
		}
	}
	return wild()
}

// plain is a part of a formula: its tree, what may become of it by what is known, and of a constant its number.
type plain struct {
	tree     api.Tree
	goes     func(l []Known) drift
	constant []int
}

func at(col, row int) api.Place { return api.Place{Col: col, Row: row} }

// found is what may become of a place.
func found(l []Known, p api.Place) drift {
	i := slices.IndexFunc(l, func(k Known) bool { return k.At == p })
	if i < 0 {
		return drift{}
	}
	return drifting(l[i].Way)
}

// still is a part of which nothing may become.
func still(t api.Tree) plain { return plain{tree: t, goes: func([]Known) drift { return drift{} }} }

// number is a Num's part.
func number(x int) plain {
	p := still(api.Tree{Num: x})
	p.constant = []int{x}
	return p
}

// bad is a Bad's part.
func bad() plain { return still(api.Tree{Kind: api.Bad}) }

// read is a Read's part.
func read(p api.Place) plain {
	return plain{tree: api.Tree{Kind: api.Read, At: api.Range{From: p, To: p}}, goes: func(l []Known) drift { return found(l, p) }}
}

// span is a Span's part.
func span(from, to api.Place) plain {
	return plain{tree: api.Tree{Kind: api.Span, At: api.Range{From: from, To: to}}, goes: func(l []Known) drift {
		var d drift
		for i := range 1024 {
			if col, row := i%16, i/16; col >= from.Col && col <= to.Col && row >= from.Row && row <= to.Row {
				d = d.or(found(l, at(col, row)))
			}
		}
		return d
	}}
}

// minus is a Neg's part.
func minus(x plain) plain {
	p := plain{tree: api.Tree{Kind: api.Neg, Kids: []api.Tree{x.tree}}, goes: func(l []Known) drift { return x.goes(l).back() }}
	for _, n := range x.constant {
		p.constant = append(p.constant, -n)
	}
	return p
}

// marks are those of Ops.
func marks() []string { return []string{"+", "-", "*", "/", "<", "<=", "=", "<>", ">=", ">"} }

// op is an Op's part.
func op(mark string, x, y plain) plain {
	return plain{tree: api.Tree{Kind: api.Op, Word: mark, Kids: []api.Tree{x.tree, y.tree}}, goes: func(l []Known) drift {
		a, b := x.goes(l), y.goes(l)
		switch mark {
		case "+":
			return drift{a.rises || b.rises, a.falls || b.falls}
		case "-", ">", ">=":
			return drift{a.rises || b.falls, a.falls || b.rises}
		case "<", "<=":
			return drift{a.falls || b.rises, a.rises || b.falls}
		case "*":
			return product(x, y, a, b)
		case "/":
			if len(y.constant) > 0 && y.constant[0] < 0 {
				return a.back()
			} else if len(y.constant) > 0 && y.constant[0] > 0 {
				return a
			}
		}
		return loose(a, b)
	}}
}

// loose is the drift of what may do all, as soon as one side may do something.
func loose(a, b drift) drift {
	if a.calm() && b.calm() {
		return drift{}
	}
	return wild()
}

// product is the drift of a product of two parts of such drifts.
func product(x, y plain, a, b drift) drift {
	switch {
	case len(y.constant) > 0 && y.constant[0] < 0:
		return a.back()
	case len(y.constant) > 0:
		return a
	case len(x.constant) > 0 && x.constant[0] < 0:
		return b.back()
	case len(x.constant) > 0:
		return b
	}
	return loose(a, b)
}

// call is a part of a word with Kids.
func call(word string, kids []plain, goes func(l []Known) drift) plain {
	t := api.Tree{Kind: api.Call, Word: word}
	for _, kid := range kids {
		t.Kids = append(t.Kids, kid.tree)
	}
	return plain{tree: t, goes: goes}
}

// choice is an IF's part.
func choice(asked, so, not plain) plain {
	return call("IF", []plain{asked, so, not}, func(l []Known) drift {
		if !asked.goes(l).calm() {
			return wild()
		}
		return so.goes(l).or(not.goes(l))
	})
}

// list is a part of a SUM, a MIN, or a MAX.
func list(word string, parts ...plain) plain {
	return call(word, parts, func(l []Known) drift {
		var d drift
		for _, x := range parts {
			d = d.or(x.goes(l))
		}
		return d
	})
}

// words are those that a list may have.
func words() []string { return []string{"SUM", "MIN", "MAX"} }

// count is a COUNT's part, of Spans and Bads.
func count(parts ...plain) plain {
	return call("COUNT", parts, func([]Known) drift { return drift{} })
}
