package syntax

import (
	"fmt"
	"strconv"
	"strings"

	"gridiron/api"
	"gridiron/lexer"
)

// This file holds what a formula, its tree, and its text are, in a plain way of its own:
// a text is a formula, if the grammar, as the document has it, derives it; its tree is had by cutting it at its weakest mark.

// grammar is the document's, each { } written as a rule that begins with itself; n, p and b stand for Num, Place and Bad.
const grammar = `
Formula = Expr
Expr = Sum | Expr Compare Sum
Compare = < | <= | = | <> | >= | >
Sum = Product | Sum + Product | Sum - Product
Product = Prefix | Product * Prefix | Product / Prefix
Prefix = - Prefix | Operand
Operand = n | p | b | ( Expr ) | IF ( Expr , Expr , Expr ) | Most ( Items ) | COUNT ( Many )
Most = SUM | MIN | MAX
Items = Item | Items , Item
Item = Range | Expr
Many = Corners | Many , Corners
Corners = Range | b
Range = End : End
End = p | b`

// rule tells what a name may be.
type rule struct {
	name string
	is   []string
}

// state is a rule, of which some is seen, from a token on.
type state struct{ rule, seen, from int }

// chart are, ahead of each token and behind the last, all states that the grammar leaves open there.
type chart struct {
	rules []rule
	named map[string][]int
	sets  [][]state
}

func newChart() *chart {
	c := &chart{named: map[string][]int{}}
	for _, line := range strings.Split(strings.TrimSpace(grammar), "\n") {
		name, all, _ := strings.Cut(line, " = ")
		for _, is := range strings.Split(all, " | ") {
			c.named[name] = append(c.named[name], len(c.rules))
			c.rules = append(c.rules, rule{name, strings.Fields(is)})
		}
	}
	c.sets = [][]state{c.closed([]state{{0, 0, 0}}, 0)}
	return c
}

// wants is what a state goes on with; "", if it has all.
func (c *chart) wants(s state) string {
	if is := c.rules[s.rule].is; s.seen < len(is) {
		return is[s.seen]
	}
	return ""
}

// closed are states at a place, and all that come of them there.
func (c *chart) closed(l []state, at int) []state {
	known := map[state]bool{}
	for _, s := range l {
		known[s] = true
	}
	add := func(s state) {
		if !known[s] {
			known[s] = true
			l = append(l, s)
		}
	}
	for i := 0; i < len(l); i++ {
		want := c.wants(l[i])
		for _, r := range c.named[want] {
			add(state{r, 0, at})
		}
		if want == "" {
			for _, s := range c.sets[l[i].from] {
				if c.wants(s) == c.rules[l[i].rule].name {
					add(state{s.rule, s.seen + 1, s.from})
				}
			}
		}
	}
	return l
}

// sort is what a token is in the grammar.
func sort(t lexer.Token) string {
	switch t.Kind {
	case lexer.Num:
		return "n"
	case lexer.Place:
		return "p"
	case lexer.Bad:
		return "b"
	}
	return t.Text
}

// put takes a token; false, and nothing is taken, if no formula goes on with it.
func (c *chart) put(t lexer.Token) bool {
	var l []state
	for _, s := range c.sets[len(c.sets)-1] {
		if want := c.wants(s); want != "" && len(c.named[want]) == 0 && want == sort(t) {
			l = append(l, state{s.rule, s.seen + 1, s.from})
		}
	}
	if len(l) == 0 {
		return false
	}
	c.sets = append(c.sets, c.closed(l, len(c.sets)))
	return true
}

// back forgets the last token.
func (c *chart) back() { c.sets = c.sets[:len(c.sets)-1] }

// whole tells whether what was taken is a formula.
func (c *chart) whole() bool {
	for _, s := range c.sets[len(c.sets)-1] {
		if s == (state{0, 1, 0}) {
			return true
		}
	}
	return false
}

// formed tells whether tokens are a formula; if not, how many of them one may begin with.
func (c *chart) formed(l []lexer.Token) (int, bool) {
	c.sets = c.sets[:1]
	for i, t := range l {
		if !c.put(t) {
			return i, false
		}
	}
	return len(l), c.whole()
}

// force is how strong a mark is, by the document's last line of words; 0 of another one.
func force(mark string) int {
	switch mark {
	case "<", "<=", "=", "<>", ">=", ">":
		return 1
	case "+", "-":
		return 2
	case "*", "/":
		return 3
	}
	return 0
}

// ends tells whether an Operand ends with a token: a mark behind it has two sides.
func ends(t lexer.Token) bool {
	return t.Kind == lexer.Num || t.Kind == lexer.Place || t.Kind == lexer.Bad || t.Text == ")"
}

// cut is the place of the last one of the weakest marks with two sides, outside of brackets; -1, if there is none.
func cut(l []lexer.Token) int {
	at, weakest, level := -1, 4, 0
	for i, t := range l {
		switch t.Text {
		case "(":
			level++
		case ")":
			level--
		}
		if f := force(t.Text); f > 0 && f <= weakest && level == 0 && i > 0 && ends(l[i-1]) {
			at, weakest = i, f
		}
	}
	return at
}

// plainTree is the tree of tokens that are a formula, or an Item, or Corners.
func plainTree(l []lexer.Token) api.Tree {
	if at := cut(l); at >= 0 {
		return api.Tree{Kind: 4, Word: l[at].Text, Kids: []api.Tree{plainTree(l[:at]), plainTree(l[at+1:])}}
	}
	first := l[0]
	switch {
	case first.Text == "-":
		return api.Tree{Kind: 3, Kids: []api.Tree{plainTree(l[1:])}}
	case first.Text == "(":
		return plainTree(l[1 : len(l)-1])
	case first.Kind == lexer.Word:
		return plainCall(first.Text, l[2:len(l)-1])
	case len(l) == 3:
		return plainRange(first, l[2])
	case first.Kind == lexer.Num:
		return api.Tree{Kind: 0, Num: first.Num}
	case first.Kind == lexer.Place:
		return api.Tree{Kind: 1, At: api.Range{From: first.At, To: first.At}}
	}
	return api.Tree{Kind: 2}
}

// plainCall is the tree of a word, and of the tokens between its brackets.
func plainCall(word string, l []lexer.Token) api.Tree {
	t := api.Tree{Kind: 5, Word: word}
	from, level := 0, 0
	for i, x := range l {
		switch x.Text {
		case "(":
			level++
		case ")":
			level--
		case ",":
			if level == 0 {
				t.Kids = append(t.Kids, plainTree(l[from:i]))
				from = i + 1
			}
		}
	}
	t.Kids = append(t.Kids, plainTree(l[from:]))
	return t
}

// plainRange is the tree of a Range with two ends.
func plainRange(a, b lexer.Token) api.Tree {
	if a.Kind == lexer.Bad || b.Kind == lexer.Bad {
		return api.Tree{Kind: 2}
	}
	if a.At.Col > b.At.Col {
		a.At.Col, b.At.Col = b.At.Col, a.At.Col
	}
	if a.At.Row > b.At.Row {
		a.At.Row, b.At.Row = b.At.Row, a.At.Row
	}
	return api.Tree{Kind: 6, At: api.Range{From: a.At, To: b.At}}
}

// depth is how deep a tree is: how many parts stand one in the other.
func depth(t api.Tree) int {
	d := 1
	for _, kid := range t.Kids {
		d = max(d, 1+depth(kid))
	}
	return d
}

// show tells all that a tree has.
func show(t api.Tree) string {
	var kids []string
	for _, kid := range t.Kids {
		kids = append(kids, show(kid))
	}
	return fmt.Sprintf("{%d %d %v %q [%s]}", t.Kind, t.Num, t.At, t.Word, strings.Join(kids, " "))
}

// parse is what Parse is to answer.
func (c *chart) parse(s string) (api.Tree, int, api.Errno) {
	l, from, e := lexer.Scan(s)
	if e != api.OK {
		return api.Tree{}, from, e
	}
	count, is := c.formed(l)
	if !is && count < len(l) {
		return api.Tree{}, l[count].From, api.ErrForm
	}
	if !is {
		return api.Tree{}, len(s), api.ErrForm
	}
	t := plainTree(l)
	if depth(t) > 16 {
		return api.Tree{}, 0, api.ErrDeep
	}
	return t, 0, api.OK
}

// none is a token that no formula has.
func none() lexer.Token { return lexer.Token{Kind: 99, Text: "?"} }

func sign(s string) lexer.Token { return lexer.Token{Kind: lexer.Mark, Text: s} }

// standing is a place's token; none, if it may not be.
func standing(p api.Place) lexer.Token {
	if p.Col < 0 || p.Col > 15 || p.Row < 0 || p.Row > 63 {
		return none()
	}
	return lexer.Token{Kind: lexer.Place, At: p}
}

// tokens are a tree's, if it is any formula's: with brackets about each part that isn't between them.
func tokens(t api.Tree) []lexer.Token {
	switch t.Kind {
	case 0:
		if t.Num < 0 {
			return []lexer.Token{none()}
		}
		return []lexer.Token{{Kind: lexer.Num, Num: t.Num}}
	case 1:
		return []lexer.Token{standing(t.At.From)}
	case 2:
		return []lexer.Token{{Kind: lexer.Bad}}
	case 3:
		return append([]lexer.Token{sign("-")}, joined(t.Kids, nil, "(", ")")...)
	case 4:
		return joined(t.Kids, []lexer.Token{sign(t.Word)}, "(", ")")
	case 5:
		l := append([]lexer.Token{{Kind: lexer.Word, Text: t.Word}, sign("(")}, joined(t.Kids, []lexer.Token{sign(",")}, "", "")...)
		return append(l, sign(")"))
	case 6:
		return []lexer.Token{standing(t.At.From), sign(":"), standing(t.At.To)}
	}
	return []lexer.Token{none()}
}

// joined are the tokens of trees, with some between them, and brackets about each, if any.
func joined(kids []api.Tree, between []lexer.Token, open, close string) []lexer.Token {
	var l []lexer.Token
	for i, kid := range kids {
		if i > 0 {
			l = append(l, between...)
		}
		if open != "" {
			l = append(l, sign(open))
		}
		l = append(l, tokens(kid)...)
		if close != "" {
			l = append(l, sign(close))
		}
	}
	return l
}

// right is what Right is to answer: is there a formula whose tree it is, and is that not too deep?
func (c *chart) right(t api.Tree) bool {
	if depth(t) > 16 {
		return false
	}
	l := tokens(t)
	_, is := c.formed(l)
	return is && show(plainTree(l)) == show(t)
}

// bare are a formula's tokens without the brackets that change nothing of its tree.
func (c *chart) bare(l []lexer.Token) []lexer.Token {
	want := show(plainTree(l))
	for i := 0; i < len(l); i++ {
		if l[i].Text != "(" {
			continue
		}
		end, level := i, 0
		for ; ; end++ {
			switch l[end].Text {
			case "(":
				level++
			case ")":
				level--
			}
			if level == 0 {
				break
			}
		}
		var less []lexer.Token
		less = append(append(append(less, l[:i]...), l[i+1:end]...), l[end+1:]...)
		if _, is := c.formed(less); is && show(plainTree(less)) == want {
			l = less
			i--
		}
	}
	return l
}

// spelt is the text of tokens, with something between them.
func spelt(l []lexer.Token, between string) string {
	var parts []string
	for _, t := range l {
		switch t.Kind {
		case lexer.Num:
			parts = append(parts, strconv.Itoa(t.Num))
		case lexer.Place:
			parts = append(parts, fmt.Sprintf("%c%d", 'A'+t.At.Col, t.At.Row+1))
		case lexer.Bad:
			parts = append(parts, "#REF")
		default:
			parts = append(parts, t.Text)
		}
	}
	return strings.Join(parts, between)
}

// print is what Print is to answer: the shortest text without blanks whose tree it is.
func (c *chart) print(t api.Tree) string {
	if !c.right(t) {
		return ""
	}
	return spelt(c.bare(tokens(t)), "")
}
