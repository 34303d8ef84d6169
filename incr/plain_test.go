package incr

import (
	"fmt"
	"math/big"
	"math/rand/v2"
	"slices"
	"strings"

	"gridiron/api"
)

// States are held here against sheets that know no edits: all that a cell leads to is looked for anew each time it is asked, and a value,
// too; formulas are made along with what they read and what they give.

const (
	most  = 1<<63 - 1
	least = -1 << 63
)

// look tells the value at a place; false, if it is empty.
type look func(i int) (api.Value, bool)

// part is a part of a formula: what it gives is one value, or those of a range.
type part struct {
	text  string
	reads []int
	give  func(at look) []api.Value
}

func n(x int) api.Value { return api.Value{Num: x} }

func f(x api.Fault) api.Value { return api.Value{Fault: x} }

// spot is the place that stands there.
func spot(i int) api.Place { return api.Place{Col: i % 16, Row: i / 16} }

// index is where a place stands among all.
func index(p api.Place) int { return 16*p.Row + p.Col }

// named is a place's text.
func named(i int) string { return fmt.Sprintf("%c%d", 'A'+i%16, i/16+1) }

// told is the index of a place's text such as B3.
func told(s string) int {
	var letter byte
	var line int
	fmt.Sscanf(s, "%c%d", &letter, &line)
	return 16*(line-1) + int(letter-'A')
}

// whole is a number without bounds as a value.
func whole(x *big.Int) api.Value {
	if !x.IsInt64() {
		return f(api.Over)
	}
	return n(int(x.Int64()))
}

// number is a Num's part.
func number(x int) part {
	return part{fmt.Sprint(x), nil, func(look) []api.Value { return []api.Value{n(x)} }}
}

// read is a Read's part.
func read(i int) part {
	return part{named(i), []int{i}, func(at look) []api.Value {
		v, _ := at(i)
		return []api.Value{v}
	}}
}

// bad is a Bad's part.
func bad() part {
	return part{"#REF", nil, func(look) []api.Value { return []api.Value{f(api.Ref)} }}
}

// span is a Span's part.
func span(a, b int) part {
	var reads []int
	for row := min(a/16, b/16); row <= max(a/16, b/16); row++ {
		for col := min(a%16, b%16); col <= max(a%16, b%16); col++ {
			reads = append(reads, 16*row+col)
		}
	}
	return part{named(reads[0]) + ":" + named(reads[len(reads)-1]), reads, func(at look) []api.Value {
		var l []api.Value
		for _, i := range reads {
			if v, is := at(i); is {
				l = append(l, v)
			}
		}
		return l
	}}
}

// op is an Op's part, of parts that need no brackets.
func op(mark string, x, y part) part {
	return part{x.text + mark + y.text, slices.Concat(x.reads, y.reads), func(at look) []api.Value {
		v, w := x.give(at)[0], y.give(at)[0]
		switch {
		case v.Fault != 0:
			return []api.Value{v}
		case w.Fault != 0:
			return []api.Value{w}
		}
		return []api.Value{done(mark, big.NewInt(int64(v.Num)), big.NewInt(int64(w.Num)))}
	}}
}

// done is what a mark makes of two numbers.
func done(mark string, a, b *big.Int) api.Value {
	switch {
	case mark == "+":
		return whole(new(big.Int).Add(a, b))
	case mark == "-":
		return whole(new(big.Int).Sub(a, b))
	case mark == "*":
		return whole(new(big.Int).Mul(a, b))
	case mark == "/" && b.Sign() == 0:
		return f(api.Div)
	case mark == "/":
		return whole(new(big.Int).Quo(a, b))
	case a.Cmp(b) > 0:
		return n(1)
	}
	return n(0)
}

// call is a word's part.
func call(word string, kids ...part) part {
	var texts []string
	var reads []int
	for _, x := range kids {
		texts, reads = append(texts, x.text), append(reads, x.reads...)
	}
	return part{word + "(" + strings.Join(texts, ",") + ")", reads, func(at look) []api.Value {
		if word == "IF" {
			return []api.Value{choice(kids, at)}
		}
		var l []api.Value
		for _, x := range kids {
			l = append(l, x.give(at)...)
		}
		return []api.Value{gathered(word, l)}
	}}
}

// choice is what an IF gives.
func choice(kids []part, at look) api.Value {
	switch v := kids[0].give(at)[0]; {
	case v.Fault != 0:
		return v
	case v.Num == 0:
		return kids[2].give(at)[0]
	}
	return kids[1].give(at)[0]
}

// gathered is what a word makes of values.
func gathered(word string, l []api.Value) api.Value {
	if word == "COUNT" {
		return n(len(l))
	}
	all := new(big.Int)
	for i, v := range l {
		x := big.NewInt(int64(v.Num))
		switch {
		case v.Fault != 0:
			return v
		case word == "SUM":
			if all.Add(all, x); !all.IsInt64() {
				return f(api.Over)
			}
		case i == 0 || word == "MIN" && x.Cmp(all) < 0 || word == "MAX" && x.Cmp(all) > 0:
			all = x
		}
	}
	return whole(all)
}

// maker makes cells at random.
type maker struct {
	r        *rand.Rand
	places   []int // that are edited, and read
	formulas int   // of ten texts so many are some
	empty    int   // of ten edits so many clear
	ahead    bool  // a formula reads only what stands ahead of its place: there are no cycles then
}

// among are the places that the cell at one may read.
func (m maker) among(i int) []int {
	if !m.ahead {
		return m.places
	}
	return slices.DeleteFunc(slices.Clone(m.places), func(j int) bool { return j >= i })
}

// term is a part that needs no brackets.
func (m maker) term(l []int) part {
	one := func() int { return l[m.r.IntN(len(l))] }
	switch m.r.IntN(12) {
	case 0:
		return number(m.r.IntN(12))
	case 1:
		return bad()
	case 2:
		return call([]string{"SUM", "MIN", "MAX"}[m.r.IntN(3)], m.area(l), read(one()))
	case 3:
		return call("COUNT", m.area(l))
	case 4:
		return call("IF", op(">", read(one()), number(m.r.IntN(5))), read(one()), read(one()))
	}
	return read(one())
}

// area is a range of places of which all may be read.
func (m maker) area(l []int) part {
	for range 20 {
		x := span(l[m.r.IntN(len(l))], l[m.r.IntN(len(l))])
		if !m.ahead || x.reads[len(x.reads)-1] <= slices.Max(l) {
			return x
		}
	}
	return span(l[0], l[0])
}

// cell is what stands at a place; a literal has no part.
type cell struct {
	text string
	part *part
	num  int
}

// cell is one at random, for a place.
func (m maker) cell(i int) cell {
	l := m.among(i)
	if len(l) == 0 || m.r.IntN(10) >= m.formulas {
		x := []int{0, 1, 2, 5, -3, -1, 1 << 62, most, least, m.r.IntN(100)}[m.r.IntN(10)]
		return cell{fmt.Sprint(x), nil, x}
	}
	x := m.term(l)
	if m.r.IntN(3) > 0 {
		x = op([]string{"+", "-", "*", "/", ">"}[m.r.IntN(5)], x, m.term(l))
	}
	return cell{"=" + x.text, &x, 0}
}

// sheet is what stands at places, by their indexes.
type sheet map[int]cell

// with is a sheet behind cells that are set, in order; one without a text is cleared.
func (s sheet) with(at []int, l []cell) sheet {
	next := sheet{}
	for i, c := range s {
		next[i] = c
	}
	for i, c := range l {
		if next[at[i]] = c; c.text == "" {
			delete(next, at[i])
		}
	}
	return next
}

// leads are all that a cell leads to.
func (s sheet) leads(i int) *[1024]bool {
	var met [1024]bool
	l := []int{i}
	for len(l) > 0 {
		c := s[l[0]]
		l = l[1:]
		if c.part == nil {
			continue
		}
		for _, j := range c.part.reads {
			if !met[j] {
				met[j] = true
				l = append(l, j)
			}
		}
	}
	return &met
}

// sources are the sheet's, rising.
func (s sheet) sources() []api.Source {
	var l []api.Source
	for i := range 1024 {
		if c, is := s[i]; is {
			l = append(l, api.Source{At: spot(i), Text: c.text})
		}
	}
	return l
}

// values are its cells', rising.
func (s sheet) values() []api.Cell {
	known := map[int]api.Value{}
	var at look
	at = func(i int) (api.Value, bool) {
		c, is := s[i]
		if v, ok := known[i]; ok || !is {
			return v, ok
		}
		switch {
		case s.leads(i)[i]:
			known[i] = f(api.Cycle)
		case c.part == nil:
			known[i] = n(c.num)
		default:
			known[i] = c.part.give(at)[0]
		}
		return known[i], true
	}
	var l []api.Cell
	for i := range 1024 {
		if v, is := at(i); is {
			l = append(l, api.Cell{At: spot(i), Value: v})
		}
	}
	return l
}

// dirty are the places where something was done, and those of all cells that lead to one, rising.
func (s sheet) dirty(on []int) []api.Place {
	var l []api.Place
	for i := range 1024 {
		met := s.leads(i)
		if slices.Contains(on, i) || slices.ContainsFunc(on, func(j int) bool { return met[j] }) {
			l = append(l, spot(i))
		}
	}
	return l
}
