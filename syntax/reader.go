package syntax

import (
	"gridiron/api"
	"gridiron/lexer"
	"gridiron/place"
)

// reader goes through tokens. The last one stands for the text's end: it has no kind, and is never taken as part of a tree.
type reader struct{ left []lexer.Token }

// misplaced is where a token begins that no formula could have there.
type misplaced int

// formula is the tree of the tokens of a text that is so long; ErrForm, and where they go wrong, if they are no formula.
func formula(tokens []lexer.Token, length int) (t api.Tree, from int, errno api.Errno) {
	// What goes wrong does so deep inside, and nothing further out is to be done about it: so a panic tells it.
	defer func() {
		if wrong := recover(); wrong != nil {
			t, from, errno = api.Tree{}, int(wrong.(misplaced)), api.ErrForm
		}
	}()
	r := reader{left: append(tokens, lexer.Token{From: length})}
	t = r.expr(0)
	if end := r.next(); end.Kind != 0 {
		panic(misplaced(end.From))
	}
	return t, 0, api.OK
}

// next takes the next token.
func (r *reader) next() lexer.Token {
	t := r.left[0]
	r.left = r.left[1:]
	return t
}

// takes tells whether the next token is a mark, and if so, takes it.
func (r *reader) takes(mark string) bool {
	if r.left[0].Text != mark {
		return false
	}
	r.next()
	return true
}

// must takes a mark, without which there is no formula.
func (r *reader) must(mark string) {
	if !r.takes(mark) {
		panic(misplaced(r.left[0].From))
	}
}

// expr is what marks of a strength, and of stronger ones, join, from the left on.
func (r *reader) expr(own int) api.Tree {
	if own == len(strengths) {
		return r.prefix()
	}
	t := r.expr(own + 1)
	for strength(r.left[0].Text) == own {
		mark := r.next().Text
		t = api.Tree{Kind: api.Op, Word: mark, Kids: []api.Tree{t, r.expr(own + 1)}}
	}
	return t
}

// prefix is an operand, with any number of - ahead.
func (r *reader) prefix() api.Tree {
	if r.takes("-") {
		return api.Tree{Kind: api.Neg, Kids: []api.Tree{r.prefix()}}
	}
	return r.operand()
}

// operand is what marks join.
func (r *reader) operand() api.Tree {
	t := r.next()
	switch {
	case t.Kind == lexer.Num:
		return api.Tree{Kind: api.Num, Num: t.Num}
	case t.Kind == lexer.Place:
		return api.Tree{Kind: api.Read, At: api.Range{From: t.At, To: t.At}}
	case t.Kind == lexer.Bad:
		return api.Tree{Kind: api.Bad}
	case t.Kind == lexer.Word:
		return r.call(t.Text)
	case t.Text == "(":
		inner := r.expr(0)
		r.must(")")
		return inner
	}
	panic(misplaced(t.From))
}

// call is what stands behind a word, in brackets, as that word's call.
func (r *reader) call(word string) api.Tree {
	t := api.Tree{Kind: api.Call, Word: word}
	r.must("(")
	switch word {
	case "IF":
		t.Kids = r.three()
	case "COUNT":
		t.Kids = r.list(r.corners)
	default:
		t.Kids = r.list(r.item)
	}
	r.must(")")
	return t
}

// three are the parts of an IF.
func (r *reader) three() []api.Tree {
	l := []api.Tree{r.expr(0)}
	for len(l) < choices {
		r.must(",")
		l = append(l, r.expr(0))
	}
	return l
}

// list are one part and more of a sort, as many as there are.
func (r *reader) list(part func() api.Tree) []api.Tree {
	l := []api.Tree{part()}
	for r.takes(",") {
		l = append(l, part())
	}
	return l
}

// item is a part of a SUM, a MIN, or a MAX.
func (r *reader) item() api.Tree {
	// Only a : tells a Range from an Expr that begins likewise; behind what is no end there is a next token.
	if corner(r.left[0]) && r.left[1].Text == ":" {
		return r.corners()
	}
	return r.expr(0)
}

// corners are a Range, or a Bad alone.
func (r *reader) corners() api.Tree {
	a := r.corner()
	if a.Kind == lexer.Bad && r.left[0].Text != ":" {
		return api.Tree{Kind: api.Bad}
	}
	r.must(":")
	b := r.corner()
	if a.Kind == lexer.Bad || b.Kind == lexer.Bad {
		return api.Tree{Kind: api.Bad}
	}
	at, _ := place.Span(a.At, b.At)
	return api.Tree{Kind: api.Span, At: at}
}

// corner takes a Range's end.
func (r *reader) corner() lexer.Token {
	t := r.next()
	if !corner(t) {
		panic(misplaced(t.From))
	}
	return t
}

// corner tells whether a token may be a Range's end.
func corner(t lexer.Token) bool { return t.Kind == lexer.Place || t.Kind == lexer.Bad }
