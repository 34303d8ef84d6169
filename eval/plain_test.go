package eval

import (
	"math/big"
	"strings"

	"gridiron/api"
)

// What a tree comes to is held here against parts that are made along with what they are to come to:
// cells are looked for one after the other, numbers have no bounds till they are told.

const (
	most  = 1<<63 - 1
	least = -1 << 63
)

// plain is a part of a formula: its tree, and the values that it gives by cells: a Span's those at its places, any other one's just one.
type plain struct {
	tree api.Tree
	give func(l []api.Cell) []api.Value
}

func at(col, row int) api.Place { return api.Place{Col: col, Row: row} }

func n(x int) api.Value { return api.Value{Num: x} }

func f(x api.Fault) api.Value { return api.Value{Fault: x} }

// is what a part comes to that gives one value.
func (x plain) is(l []api.Cell) api.Value { return x.give(l)[0] }

// counting is how many values a part gives.
func (x plain) counting(l []api.Cell) int { return len(x.give(l)) }

// one is a part that gives one value.
func one(t api.Tree, is func(l []api.Cell) api.Value) plain {
	return plain{t, func(l []api.Cell) []api.Value { return []api.Value{is(l)} }}
}

// found is what counts at a place.
func found(l []api.Cell, p api.Place) (api.Value, bool) {
	for _, c := range l {
		if c.At == p && c.Value.Fault != 0 {
			return f(c.Value.Fault), true
		}
		if c.At == p {
			return c.Value, true
		}
	}
	return n(0), false
}

// whole is a number without bounds as a value.
func whole(x *big.Int) api.Value {
	if !x.IsInt64() {
		return f(api.Over)
	}
	return n(int(x.Int64()))
}

// number is a Num's part.
func number(x int) plain {
	return one(api.Tree{Num: x}, func([]api.Cell) api.Value { return n(x) })
}

// read is a Read's part.
func read(p api.Place) plain {
	return one(api.Tree{Kind: api.Read, At: api.Range{From: p, To: p}}, func(l []api.Cell) api.Value {
		v, _ := found(l, p)
		return v
	})
}

// bad is a Bad's part.
func bad() plain {
	return one(api.Tree{Kind: api.Bad}, func([]api.Cell) api.Value { return f(api.Ref) })
}

// span is a Span's part.
func span(from, to api.Place) plain {
	return plain{api.Tree{Kind: api.Span, At: api.Range{From: from, To: to}}, func(l []api.Cell) []api.Value {
		var given []api.Value
		for i := range 1024 {
			col, row := i%16, i/16
			if col < from.Col || col > to.Col || row < from.Row || row > to.Row {
				continue
			}
			if v, is := found(l, at(col, row)); is {
				given = append(given, v)
			}
		}
		return given
	}}
}

// minus is a Neg's part.
func minus(x plain) plain {
	return one(api.Tree{Kind: api.Neg, Kids: []api.Tree{x.tree}}, func(l []api.Cell) api.Value {
		v := x.is(l)
		if v.Fault != 0 {
			return v
		}
		return whole(new(big.Int).Neg(big.NewInt(int64(v.Num))))
	})
}

// marks are those of Ops.
func marks() []string { return []string{"+", "-", "*", "/", "<", "<=", "=", "<>", ">=", ">"} }

// op is an Op's part.
func op(mark string, x, y plain) plain {
	return one(api.Tree{Kind: api.Op, Word: mark, Kids: []api.Tree{x.tree, y.tree}}, func(l []api.Cell) api.Value {
		a, b := x.is(l), y.is(l)
		if a.Fault != 0 {
			return a
		}
		if b.Fault != 0 {
			return b
		}
		return done(mark, big.NewInt(int64(a.Num)), big.NewInt(int64(b.Num)))
	})
}

// done is what a mark makes of two numbers.
func done(mark string, a, b *big.Int) api.Value {
	switch mark {
	case "+":
		return whole(new(big.Int).Add(a, b))
	case "-":
		return whole(new(big.Int).Sub(a, b))
	case "*":
		return whole(new(big.Int).Mul(a, b))
	case "/":
		if b.Sign() == 0 {
			return f(api.Div)
		}
		return whole(new(big.Int).Quo(a, b))
	}
	// < stands for what is below, = for what is as much, > for what is above: a mark is so, if it has the one that it is.
	if strings.Contains(mark, [...]string{"<", "=", ">"}[a.Cmp(b)+1]) {
		return n(1)
	}
	return n(0)
}

// call is a part of a word with Kids.
func call(word string, kids []plain, is func(l []api.Cell) api.Value) plain {
	t := api.Tree{Kind: api.Call, Word: word}
	for _, kid := range kids {
		t.Kids = append(t.Kids, kid.tree)
	}
	return one(t, is)
}

// choice is an IF's part.
func choice(asked, so, not plain) plain {
	return call("IF", []plain{asked, so, not}, func(l []api.Cell) api.Value {
		if v := asked.is(l); v.Fault != 0 {
			return v
		} else if v.Num == 0 {
			return not.is(l)
		}
		return so.is(l)
	})
}

// given are the values of parts, one behind the other, up to the first faulty one, that is told then.
func given(parts []plain, l []api.Cell) ([]*big.Int, api.Value) {
	var nums []*big.Int
	for _, x := range parts {
		for _, v := range x.give(l) {
			if v.Fault != 0 {
				return nums, v
			}
			nums = append(nums, big.NewInt(int64(v.Num)))
		}
	}
	return nums, n(0)
}

// sum is a SUM's part: what it runs over ahead of a faulty value is told, and doesn't come back.
func sum(parts ...plain) plain {
	return call("SUM", parts, func(l []api.Cell) api.Value {
		nums, wrong := given(parts, l)
		all := new(big.Int)
		for _, x := range nums {
			if all.Add(all, x); !all.IsInt64() {
				return f(api.Over)
			}
		}
		if wrong.Fault != 0 {
			return wrong
		}
		return whole(all)
	})
}

// end is the part of a word that takes the one of all that is furthest one way.
func end(word string, way int, parts []plain) plain {
	return call(word, parts, func(l []api.Cell) api.Value {
		nums, wrong := given(parts, l)
		if wrong.Fault != 0 || len(nums) == 0 {
			return wrong
		}
		furthest := nums[0]
		for _, x := range nums {
			if x.Cmp(furthest) == way {
				furthest = x
			}
		}
		return whole(furthest)
	})
}

// lowest is a MIN's part.
func lowest(parts ...plain) plain { return end("MIN", -1, parts) }

// highest is a MAX's part.
func highest(parts ...plain) plain { return end("MAX", 1, parts) }

// count is a COUNT's part, of Spans and Bads.
func count(parts ...plain) plain {
	return call("COUNT", parts, func(l []api.Cell) api.Value {
		all := 0
		for _, x := range parts {
			if x.tree.Kind == api.Bad {
				return f(api.Ref)
			}
			all += x.counting(l)
		}
		return n(all)
	})
}
