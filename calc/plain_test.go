package calc

import (
	"fmt"
	"math/big"
	"math/rand/v2"
	"strings"

	"gridiron/api"
)

// Sheets are held here against formulas that are made along with all that is to be told of them: a text that is plain, one that isn't,
// how deep they are, what they read, and what they give. What leads to what stands in a table, and a value is asked for where it is needed.

const (
	most  = 1<<63 - 1
	least = -1 << 63
)

// look tells the value at a place; false, if it is empty.
type look func(p api.Place) (api.Value, bool)

// part is a part of a formula: a Span gives the values at its places, any other one just one.
type part struct {
	plain, loose string
	strong, deep int // 3, if no bracket is ever needed
	reads        []api.Place
	give         func(at look) []api.Value
}

func at(col, row int) api.Place { return api.Place{Col: col, Row: row} }

func n(x int) api.Value { return api.Value{Num: x} }

func f(x api.Fault) api.Value { return api.Value{Fault: x} }

// named is a place's text.
func named(p api.Place) string { return fmt.Sprintf("%c%d", 'A'+p.Col, p.Row+1) }

// told is the place of a text such as B3.
func told(s string) api.Place {
	var letter byte
	var line int
	fmt.Sscanf(s, "%c%d", &letter, &line)
	return at(int(letter-'A'), line-1)
}

// index is where a place stands among all.
func index(p api.Place) int { return 16*p.Row + p.Col }

// spot is the place that stands there.
func spot(i int) api.Place { return at(i%16, i/16) }

// whole is a number without bounds as a value.
func whole(x *big.Int) api.Value {
	if !x.IsInt64() {
		return f(api.Over)
	}
	return n(int(x.Int64()))
}

// maker makes parts at random, of which the loose text has blanks, brackets and noughts that nobody needs.
type maker struct {
	r      *rand.Rand
	places []api.Place // that are read
	loose  int         // of ten spots so many get something
}

// blank is nothing, or some blanks.
func (m maker) blank() string {
	if m.r.IntN(10) >= m.loose {
		return ""
	}
	return strings.Repeat(" ", 1+m.r.IntN(2))
}

// join are pieces with blanks between, or nothing.
func (m maker) join(pieces ...string) string {
	var b strings.Builder
	for _, s := range pieces {
		b.WriteString(m.blank())
		b.WriteString(s)
	}
	b.WriteString(m.blank())
	return b.String()
}

// inner is a part where one of such strength may stand without brackets.
func (m maker) inner(x part, asked int) (plain, loose string) {
	if x.strong < asked {
		return "(" + x.plain + ")", m.join("(", x.loose, ")")
	}
	if m.r.IntN(10) < m.loose/2 {
		return x.plain, m.join("(", x.loose, ")")
	}
	return x.plain, x.loose
}

func one(v api.Value) []api.Value { return []api.Value{v} }

// number is a Num's part.
func (m maker) number() part {
	x := []int{0, 1, 2, 3, 7, 10, 42, most}[m.r.IntN(8)]
	text := fmt.Sprint(x)
	loose := text
	if m.r.IntN(10) < m.loose {
		loose = strings.Repeat("0", 1+m.r.IntN(3)) + text
	}
	return part{text, loose, 3, 1, nil, func(look) []api.Value { return one(n(x)) }}
}

func (m maker) place() api.Place { return m.places[m.r.IntN(len(m.places))] }

// read is a Read's part.
func (m maker) read() part {
	p := m.place()
	return part{named(p), named(p), 3, 1, []api.Place{p}, func(at look) []api.Value {
		v, _ := at(p)
		return one(v)
	}}
}

// gone is a text of a place that is none.
func (m maker) gone() string {
	if m.loose == 0 {
		return "#REF"
	}
	return []string{"#REF", "Q1", "A65", "Z999", "P100", "#REF"}[m.r.IntN(6)]
}

// bad is a Bad's part.
func (m maker) bad() part {
	return part{"#REF", m.gone(), 3, 1, nil, func(look) []api.Value { return one(f(api.Ref)) }}
}

// lost is a Bad's part that a Range makes; plain, it is the same.
func (m maker) lost() part {
	x := m.bad()
	if m.loose > 0 {
		x.loose = m.join(m.gone(), ":", named(m.place()))
	}
	return x
}

// span is a Span's part.
func (m maker) span() part {
	a, b := m.place(), m.place()
	from, to := at(min(a.Col, b.Col), min(a.Row, b.Row)), at(max(a.Col, b.Col), max(a.Row, b.Row))
	plain := named(from) + ":" + named(to)
	loose := plain
	if m.loose > 0 {
		loose = m.join(named(at(b.Col, a.Row)), ":", named(at(a.Col, b.Row)))
	}
	var reads []api.Place
	for row := from.Row; row <= to.Row; row++ {
		for col := from.Col; col <= to.Col; col++ {
			reads = append(reads, at(col, row))
		}
	}
	return part{plain, loose, 3, 1, reads, func(at look) []api.Value {
		var l []api.Value
		for _, p := range reads {
			if v, is := at(p); is {
				l = append(l, v)
			}
		}
		return l
	}}
}

// minus is a Neg's part.
func (m maker) minus(x part) part {
	plain, loose := m.inner(x, 3)
	return part{"-" + plain, m.join("-", loose), 3, x.deep + 1, x.reads, func(at look) []api.Value {
		v := x.give(at)[0]
		if v.Fault == 0 {
			v = whole(new(big.Int).Neg(big.NewInt(int64(v.Num))))
		}
		return one(v)
	}}
}

// marks are those of Ops, and their strengths; those that make faults come twice.
func marks() ([]string, []int) {
	return []string{"+", "-", "*", "/", "*", "/", "<", "<=", "=", "<>", ">=", ">"}, []int{1, 1, 2, 2, 2, 2, 0, 0, 0, 0, 0, 0}
}

// op is an Op's part.
func (m maker) op(x, y part) part {
	all, strengths := marks()
	i := m.r.IntN(len(all))
	mark, own := all[i], strengths[i]
	a, b := m.inner(x, own)
	c, d := m.inner(y, own+1)
	return part{a + mark + c, m.join(b, mark, d), own, max(x.deep, y.deep) + 1, append(append([]api.Place{}, x.reads...), y.reads...), func(at look) []api.Value {
		v, w := x.give(at)[0], y.give(at)[0]
		switch {
		case v.Fault != 0:
			return one(v)
		case w.Fault != 0:
			return one(w)
		}
		return one(done(mark, big.NewInt(int64(v.Num)), big.NewInt(int64(w.Num))))
	}}
}

// done is what a mark makes of two numbers.
func done(mark string, a, b *big.Int) api.Value {
	switch mark {
	case "+":
		return whole(new(big.Int).Add(a, b))
	case "-":
		return whole(new(big.Int).Sub(a, b))
	case "*":
		return whole(new(big.Int).Mul(a, b))
	case "/":
		if b.Sign() == 0 {
			return f(api.Div)
		}
		return whole(new(big.Int).Quo(a, b))
	}
	// < stands for what is below, = for what is as much, > for what is above: a mark is so, if it has the one that it is.
	if strings.Contains(mark, [...]string{"<", "=", ">"}[a.Cmp(b)+1]) {
		return n(1)
	}
	return n(0)
}

// call is a part of a word with Kids.
func (m maker) call(word string, kids []part, bare bool, give func(at look) api.Value) part {
	t := part{strong: 3, deep: 1, give: func(at look) []api.Value { return one(give(at)) }}
	var plain, loose []string
	for _, x := range kids {
		a, b := x.plain, x.loose
		if !bare && !strings.Contains(x.loose, ":") && !strings.Contains(x.plain, ":") {
			a, b = m.inner(x, 0)
		}
		plain, loose = append(plain, a), append(loose, ",", b)
		t.deep = max(t.deep, x.deep+1)
		t.reads = append(t.reads, x.reads...)
	}
	t.plain = word + "(" + strings.Join(plain, ",") + ")"
	t.loose = m.join(append(append([]string{word, "("}, loose[1:]...), ")")...)
	return t
}

// choice is an IF's part.
func (m maker) choice(asked, so, not part) part {
	return m.call("IF", []part{asked, so, not}, false, func(at look) api.Value {
		switch v := asked.give(at)[0]; {
		case v.Fault != 0:
			return v
		case v.Num == 0:
			return not.give(at)[0]
		}
		return so.give(at)[0]
	})
}

// count is a COUNT's part.
func (m maker) count() part {
	var kids []part
	wrong := false
	for range 1 + m.r.IntN(3) {
		switch m.r.IntN(12) {
		case 0:
			kids, wrong = append(kids, m.bad()), true
		case 1:
			kids, wrong = append(kids, m.lost()), true
		default:
			kids = append(kids, m.span())
		}
	}
	return m.call("COUNT", kids, true, func(at look) api.Value {
		if wrong {
			return f(api.Ref)
		}
		all := 0
		for _, x := range kids {
			all += len(x.give(at))
		}
		return n(all)
	})
}

// many is the part of a word that makes one value of all.
func (m maker) many(depth int) part {
	var kids []part
	for range 1 + m.r.IntN(4) {
		switch m.r.IntN(8) {
		case 0, 1, 2:
			kids = append(kids, m.span())
		case 3:
			kids = append(kids, m.lost())
		default:
			kids = append(kids, m.part(depth))
		}
	}
	word := []string{"SUM", "MIN", "MAX"}[m.r.IntN(3)]
	return m.call(word, kids, false, func(at look) api.Value {
		var l []api.Value
		for _, x := range kids {
			l = append(l, x.give(at)...)
		}
		return gathered(word, l)
	})
}

// gathered is what a word makes of values.
func gathered(word string, l []api.Value) api.Value {
	all := new(big.Int)
	for i, v := range l {
		x := big.NewInt(int64(v.Num))
		switch {
		case v.Fault != 0:
			return v
		case word == "SUM":
			if all.Add(all, x); !all.IsInt64() {
				return f(api.Over)
			}
		case i == 0 || word == "MIN" && x.Cmp(all) < 0 || word == "MAX" && x.Cmp(all) > 0:
			all = x
		}
	}
	return whole(all)
}

// part is one of any kind that is no Span, of some depth.
func (m maker) part(depth int) part {
	kind := m.r.IntN(14)
	if depth <= 1 {
		kind %= 5
	}
	switch kind {
	case 0:
		return m.number()
	case 1, 2, 3:
		return m.read()
	case 4:
		if m.r.IntN(4) > 0 {
			return m.read()
		}
		return m.bad()
	case 5:
		return m.minus(m.part(depth - 1))
	case 6:
		return m.choice(m.part(depth-1), m.part(depth-1), m.part(depth-1))
	case 7:
		return m.count()
	case 8, 9:
		return m.many(depth - 1)
	}
	return m.op(m.part(depth-1), m.part(depth-1))
}

// cell is a source, and what it is made of; a literal has no part.
type cell struct {
	at     api.Place
	part   *part
	number int
}

// text is a cell's, that is plain.
func (c cell) text() string {
	if c.part == nil {
		return fmt.Sprint(c.number)
	}
	return "=" + c.part.plain
}

// table is a sheet, with what leads to what.
type table struct {
	cells map[int]cell
	leads [][]bool
	known map[int]api.Value
}

// tabled is a sheet of cells.
func tabled(l []cell) *table {
	t := &table{map[int]cell{}, nil, map[int]api.Value{}}
	for range 1024 {
		t.leads = append(t.leads, make([]bool, 1024))
	}
	for _, c := range l {
		t.cells[index(c.at)] = c
		if c.part != nil {
			for _, p := range c.part.reads {
				t.leads[index(c.at)][index(p)] = true
			}
		}
	}
	for by := range t.cells {
		for i := range t.cells {
			if t.leads[i][by] {
				for to, ok := range t.leads[by] {
					t.leads[i][to] = t.leads[i][to] || ok
				}
			}
		}
	}
	return t
}

// value is that of a cell.
func (t *table) value(p api.Place) (api.Value, bool) {
	i := index(p)
	c, is := t.cells[i]
	if !is {
		return n(0), false
	}
	if _, is := t.known[i]; !is {
		switch {
		case t.leads[i][i]:
			t.known[i] = f(api.Cycle)
		case c.part == nil:
			t.known[i] = n(c.number)
		default:
			t.known[i] = c.part.give(t.value)[0]
		}
	}
	return t.known[i], true
}

// values are those of all cells, by their indexes.
func (t *table) values() []api.Cell {
	var l []api.Cell
	for i := range 1024 {
		if v, is := t.value(spot(i)); is {
			l = append(l, api.Cell{At: spot(i), Value: v})
		}
	}
	return l
}
