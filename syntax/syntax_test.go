package syntax

import (
	"fmt"
	"math/rand/v2"
	"slices"
	"strings"
	"testing"

	"gridiron/api"
	"gridiron/lexer"
)

const greatest = 1<<63 - 1

func number(n int) api.Tree { return api.Tree{Kind: api.Num, Num: n} }

func at(col, row int) api.Place { return api.Place{Col: col, Row: row} }

func read(col, row int) api.Tree {
	return api.Tree{Kind: api.Read, At: api.Range{From: at(col, row), To: at(col, row)}}
}

func bad() api.Tree { return api.Tree{Kind: api.Bad} }

func neg(kids ...api.Tree) api.Tree { return api.Tree{Kind: api.Neg, Kids: kids} }

func op(mark string, kids ...api.Tree) api.Tree {
	return api.Tree{Kind: api.Op, Word: mark, Kids: kids}
}

func call(word string, kids ...api.Tree) api.Tree {
	return api.Tree{Kind: api.Call, Word: word, Kids: kids}
}

func spanned(col, row, toCol, toRow int) api.Tree {
	return api.Tree{Kind: api.Span, At: api.Range{From: at(col, row), To: at(toCol, toRow)}}
}

// marks and words are those that the document names.
func marks() []string { return []string{"<", "<=", "=", "<>", ">=", ">", "+", "-", "*", "/"} }

func words() []string { return []string{"IF", "SUM", "MIN", "MAX", "COUNT"} }

// gives tells whether a text has just this tree, and that just this text.
func gives(t *testing.T, s string, want api.Tree, text string) {
	t.Helper()
	if is, from, e := Parse(s); show(is) != show(want) || from != 0 || e != api.OK {
		t.Errorf("%q: %s %d %d, want %s", s, show(is), from, e, show(want))
	}
	if is := Print(want); is != text {
		t.Errorf("%s: %q, want %q", show(want), is, text)
	}
	if !Right(want) {
		t.Errorf("%s may not be", show(want))
	}
}

// fails tells whether a text has no tree, for a reason.
func fails(t *testing.T, s string, from int, want api.Errno) {
	t.Helper()
	if is, place, e := Parse(s); show(is) != show(api.Tree{}) || place != from || e != want {
		t.Errorf("%.300q: %s %d %d, want %d %d", s, show(is), place, e, from, want)
	}
}

// mayNot tells whether a tree may not be, alone and as a part.
func mayNot(t *testing.T, x api.Tree) {
	t.Helper()
	wrong := []api.Tree{x, neg(x), neg(neg(x)), op("+", number(1), x), op("*", x, number(1)), call("SUM", x), call("MAX", number(1), x, number(2)), call("IF", number(1), number(2), x), call("COUNT", x), call("COUNT", bad(), x)}
	for _, x := range wrong {
		if Right(x) || Print(x) != "" {
			t.Errorf("%s: %v %q", show(x), Right(x), Print(x))
		}
	}
}

// judge holds what is told of a text against what is to be told.
func (c *chart) judge(t *testing.T, s string) {
	t.Helper()
	want, from, errno := c.parse(s)
	if is, place, e := Parse(s); show(is) != show(want) || place != from || e != errno {
		t.Fatalf("%q: %s %d %d, want %s %d %d", s, show(is), place, e, show(want), from, errno)
	}
}

// weigh holds what is told of a tree against what is to be told, and tells whether it may be.
func (c *chart) weigh(t *testing.T, x api.Tree) bool {
	t.Helper()
	may, text := c.right(x), c.print(x)
	if is := Right(x); is != may {
		t.Fatalf("%s: %v, want %v", show(x), is, may)
	}
	if is := Print(x); is != text {
		t.Fatalf("%s: %q, want %q", show(x), is, text)
	}
	if d := Deep(x); d != depth(x) {
		t.Fatalf("%s: %d deep, want %d", show(x), d, depth(x))
	}
	if !Same(x, x) {
		t.Fatalf("%s is not the same as itself", show(x))
	}
	return may
}

// P5.1: ordinary formulas
func TestParse(t *testing.T) {
	gives(t, "0", number(0), "0")
	gives(t, "42", number(42), "42")
	gives(t, "9223372036854775807", number(greatest), "9223372036854775807")
	gives(t, "007", number(7), "7")
	gives(t, "A1", read(0, 0), "A1")
	gives(t, "P64", read(15, 63), "P64")
	gives(t, "C10", read(2, 9), "C10")
	gives(t, "#REF", bad(), "#REF")
	gives(t, "Q1", bad(), "#REF")
	gives(t, "A65", bad(), "#REF")
	gives(t, "A1*-3", op("*", read(0, 0), neg(number(3))), "A1*-3")
	gives(t, "IF(A1>4,1,1/0)", call("IF", op(">", read(0, 0), number(4)), number(1), op("/", number(1), number(0))), "IF(A1>4,1,1/0)")
	gives(t, "#REF+B1", op("+", bad(), read(1, 0)), "#REF+B1")
	gives(t, "SUM(A1:B3)/COUNT(A1:B3)", op("/", call("SUM", spanned(0, 0, 1, 2)), call("COUNT", spanned(0, 0, 1, 2))), "SUM(A1:B3)/COUNT(A1:B3)")
	gives(t, "1-2*A1", op("-", number(1), op("*", number(2), read(0, 0))), "1-2*A1")
	gives(t, "1-2-3", op("-", op("-", number(1), number(2)), number(3)), "1-2-3")
	gives(t, "1-(2-3)", op("-", number(1), op("-", number(2), number(3))), "1-(2-3)")
	gives(t, "(1<2)=(3>4)", op("=", op("<", number(1), number(2)), op(">", number(3), number(4))), "1<2=(3>4)")
	gives(t, "-9223372036854775807-1", op("-", neg(number(greatest)), number(1)), "-9223372036854775807-1")
	gives(t, "MIN(-A1,IF(B2,3,SUM(C3:D4)),MAX(5))", call("MIN", neg(read(0, 0)), call("IF", read(1, 1), number(3), call("SUM", spanned(2, 2, 3, 3))), call("MAX", number(5))), "MIN(-A1,IF(B2,3,SUM(C3:D4)),MAX(5))")
}

// P5.1: each two marks, one line from the left on; the weaker one outside, the same where brackets say so
func TestMarks(t *testing.T) {
	for _, a := range marks() {
		gives(t, "1"+a+"2", op(a, number(1), number(2)), "1"+a+"2")
		for _, b := range marks() {
			left := op(b, op(a, number(1), number(2)), number(3))
			right := op(a, number(1), op(b, number(2), number(3)))
			plain, ahead, behind := "1"+a+"2"+b+"3", "(1"+a+"2)"+b+"3", "1"+a+"("+"2"+b+"3)"
			if force(a) >= force(b) {
				gives(t, plain, left, plain)
				gives(t, ahead, left, plain)
				gives(t, behind, right, behind)
			} else {
				gives(t, plain, right, plain)
				gives(t, ahead, left, ahead)
				gives(t, behind, right, plain)
			}
		}
	}
}

// P5.1: three marks and four operands, in each of the five ways of brackets
func TestLines(t *testing.T) {
	c := newChart()
	some := []string{"<", "=", "+", "-", "*", "/"}
	for _, a := range some {
		for _, b := range marks() {
			for _, d := range some {
				c.judge(t, "1"+a+"A1"+b+"-2"+d+"#REF")
				for _, x := range []api.Tree{
					op(d, op(b, op(a, number(1), number(2)), number(3)), number(4)),
					op(d, op(a, number(1), op(b, number(2), number(3))), number(4)),
					op(b, op(a, number(1), number(2)), op(d, number(3), number(4))),
					op(a, number(1), op(d, op(b, number(2), number(3)), number(4))),
					op(a, number(1), op(b, number(2), op(d, number(3), number(4)))),
				} {
					if !c.weigh(t, x) {
						t.Fatalf("%s may not be", show(x))
					}
				}
			}
		}
	}
}

// P5.1: a - ahead of whatever a Prefix may be
func TestNeg(t *testing.T) {
	kids := map[string]api.Tree{
		"5": number(5), "A1": read(0, 0), "#REF": bad(), "-5": neg(number(5)), "--A1": neg(neg(read(0, 0))), "SUM(1)": call("SUM", number(1)), "IF(1,2,3)": call("IF", number(1), number(2), number(3)), "COUNT(A1:B2)": call("COUNT", spanned(0, 0, 1, 1)), "MIN(-1)": call("MIN", neg(number(1))),
	}
	for _, mark := range marks() {
		kids["(1"+mark+"2)"] = op(mark, number(1), number(2))
	}
	for s, kid := range kids {
		x := neg(kid)
		gives(t, "-"+s, x, "-"+s)
		gives(t, " - ( "+s+" ) ", x, "-"+s)
		gives(t, "--"+s, neg(x), "--"+s)
		for _, mark := range marks() {
			gives(t, "-"+s+mark+"7", op(mark, x, number(7)), "-"+s+mark+"7")
			gives(t, "7"+mark+"-"+s, op(mark, number(7), x), "7"+mark+"-"+s)
			gives(t, "-(-"+s+mark+"--"+s+")", neg(op(mark, x, neg(x))), "-(-"+s+mark+"--"+s+")")
		}
	}
}

// P5.1: each word, with each number of parts that it may have
func TestCalls(t *testing.T) {
	gives(t, "IF(1,A1,#REF)", call("IF", number(1), read(0, 0), bad()), "IF(1,A1,#REF)")
	for _, word := range words()[1:] {
		var kids []api.Tree
		s := word + "("
		for n := range 40 {
			row := n%2 + 1
			kids = append(kids, spanned(0, 0, 1, row), bad())
			s += fmt.Sprintf("A1:B%d,#REF", row+1)
			if len(s) < 200 {
				gives(t, s+")", call(word, kids...), s+")")
			} else if x := call(word, kids...); !Right(x) || Print(x) != s+")" {
				t.Errorf("%s: %q", show(x), Print(x))
			}
			s += ","
		}
	}
	for _, word := range []string{"SUM", "MIN", "MAX"} {
		gives(t, word+"(1)", call(word, number(1)), word+"(1)")
		gives(t, word+"(A1)", call(word, read(0, 0)), word+"(A1)")
		gives(t, word+"(#REF)", call(word, bad()), word+"(#REF)")
		gives(t, word+"((A1))", call(word, read(0, 0)), word+"(A1)")
		gives(t, word+"(A1+1,A1:A1,-B1,(2))", call(word, op("+", read(0, 0), number(1)), spanned(0, 0, 0, 0), neg(read(1, 0)), number(2)), word+"(A1+1,A1:A1,-B1,2)")
		gives(t, word+"(#REF*2,1<(2<3))", call(word, op("*", bad(), number(2)), op("<", number(1), op("<", number(2), number(3)))), word+"(#REF*2,1<(2<3))")
		gives(t, word+"("+word+"("+word+"(A1:B2)))", call(word, call(word, call(word, spanned(0, 0, 1, 1)))), word+"("+word+"("+word+"(A1:B2)))")
	}
	gives(t, "COUNT(#REF)", call("COUNT", bad()), "COUNT(#REF)")
	gives(t, "COUNT(Z9)", call("COUNT", bad()), "COUNT(#REF)")
	gives(t, "COUNT(A1:A1)", call("COUNT", spanned(0, 0, 0, 0)), "COUNT(A1:A1)")
	gives(t, "IF(IF(1,2,3),1<2,-(1+2))", call("IF", call("IF", number(1), number(2), number(3)), op("<", number(1), number(2)), neg(op("+", number(1), number(2)))), "IF(IF(1,2,3),1<2,-(1+2))")
}

// P5.1: Ranges whose corners stand in whatever order, with a Bad on either side, and on both
func TestRanges(t *testing.T) {
	for _, word := range words()[1:] {
		for _, s := range []string{"B3:D7", "D7:B3", "B7:D3", "D3:B7", " B3 : D7 "} {
			gives(t, word+"("+s+")", call(word, spanned(1, 2, 3, 6)), word+"(B3:D7)")
			gives(t, word+"(#REF,"+s+")", call(word, bad(), spanned(1, 2, 3, 6)), word+"(#REF,B3:D7)")
		}
		gives(t, word+"(P64:A1)", call(word, spanned(0, 0, 15, 63)), word+"(A1:P64)")
		gives(t, word+"(P1:A64)", call(word, spanned(0, 0, 15, 63)), word+"(A1:P64)")
		gives(t, word+"(C9:C2)", call(word, spanned(2, 1, 2, 8)), word+"(C2:C9)")
		gives(t, word+"(F5:B5)", call(word, spanned(1, 4, 5, 4)), word+"(B5:F5)")
		gives(t, word+"(J10:J10)", call(word, spanned(9, 9, 9, 9)), word+"(J10:J10)")
		for _, s := range []string{"#REF:A1", "A1:#REF", "#REF:#REF", "Q1:A1", "A1:Q1", "Q1:A65", "A65:#REF", "#REF : B2", "#REF", "Z999"} {
			gives(t, word+"("+s+")", call(word, bad()), word+"(#REF)")
			gives(t, word+"("+s+",A1:B2,"+s+")", call(word, bad(), spanned(0, 0, 1, 1), bad()), word+"(#REF,A1:B2,#REF)")
		}
	}
}

// P5.1: brackets alone leave no trace, and are not deep
func TestBrackets(t *testing.T) {
	for s, x := range map[string]api.Tree{"7": number(7), "A1": read(0, 0), "#REF": bad(), "-1": neg(number(1)), "1+2": op("+", number(1), number(2)), "SUM(A1:B2,3)": call("SUM", spanned(0, 0, 1, 1), number(3))} {
		for n := range 90 {
			in := strings.Repeat("(", n) + s + strings.Repeat(")", n)
			gives(t, in, x, s)
			gives(t, "MAX("+in+")", call("MAX", x), "MAX("+s+")")
			if n > 0 {
				fails(t, in+")", len(in), api.ErrForm)
				fails(t, in[:len(in)-1], len(in)-1, api.ErrForm)
			}
		}
	}
	long := strings.Repeat("(", 99) + "A1" + strings.Repeat(")", 99)
	gives(t, long, read(0, 0), "A1")
	fails(t, "("+long, 0, api.ErrFull)
	fails(t, long[:199], 199, api.ErrForm)
	fails(t, long[1:]+")", 198, api.ErrForm)
}

// P5.1: blanks change no tree
func TestBlanks(t *testing.T) {
	for _, s := range []string{"1", "A1<=-B2*3", "IF(1,2,COUNT(A1:B2))", "SUM(#REF:A1,-(1+2),C3)/4", "#REF"} {
		l, _, _ := lexer.Scan(s)
		want, _, errno := Parse(s)
		for n := range 5 {
			blanks := strings.Repeat(" ", n)
			apart := blanks + spelt(l, blanks) + blanks
			if is, from, e := Parse(apart); !Same(is, want) || from != 0 || e != api.OK || errno != api.OK {
				t.Errorf("%q: %s %d %d", apart, show(is), from, e)
			}
		}
	}
	gives(t, strings.Repeat(" ", 199)+"5", number(5), "5")
	gives(t, "5"+strings.Repeat(" ", 199), number(5), "5")
	fails(t, " ", 1, api.ErrForm)
	fails(t, strings.Repeat(" ", 200), 200, api.ErrForm)
	fails(t, "1 + ", 4, api.ErrForm)
	fails(t, "  1  2  ", 5, api.ErrForm)
	fails(t, "  SUM(  ", 8, api.ErrForm)
	fails(t, " )", 1, api.ErrForm)
}

// nested are trees whose depth is given, by what they are made of, with their texts.
func nested(d int) map[string]api.Tree {
	x := map[string]api.Tree{"-": number(1), "op": number(1), "behind": number(1), "SUM": number(1), "IF": number(1), "last": number(1), "COUNT": call("COUNT", spanned(0, 0, 1, 1))}
	for range d - 1 {
		x["-"] = neg(x["-"])
		x["op"] = op("+", x["op"], number(2))
		x["behind"] = op("-", number(2), x["behind"])
		x["SUM"] = call("SUM", x["SUM"])
		x["IF"] = call("IF", x["IF"], number(2), number(3))
		x["last"] = call("IF", number(2), bad(), x["last"])
	}
	for range d - 2 {
		x["COUNT"] = neg(x["COUNT"])
	}
	return x
}

// P5.1: a tree that is 16 deep, and one that is 17
func TestDeep(t *testing.T) {
	for d := 2; d < 25; d++ {
		for name, x := range nested(d) {
			text := spelt(tokens(x), "")
			if Deep(x) != d || Right(x) != (d <= 16) || (Print(x) != "") != (d <= 16) {
				t.Errorf("%s, %d deep: %d %v %q", name, d, Deep(x), Right(x), Print(x))
			}
			if len(text) > 195 {
				continue
			}
			if is, from, e := Parse(text); d <= 16 && (!Same(is, x) || from != 0 || e != api.OK) {
				t.Errorf("%q: %s %d %d", text, show(is), from, e)
			}
			if d > 16 {
				fails(t, text, 0, api.ErrDeep)
				fails(t, "   "+text+"  ", 0, api.ErrDeep)
				// what is no formula is told first, whatever its depth
				fails(t, text+" 1", len(text)+1, api.ErrForm)
				fails(t, text+"+", len(text)+1, api.ErrForm)
				fails(t, text+"+ a", len(text)+2, api.ErrForm)
			}
		}
	}
	sum := strings.Repeat("1+", 15) + "1"
	if x, _, e := Parse(sum); Deep(x) != 16 || e != api.OK {
		t.Errorf("%q: %d %d", sum, Deep(x), e)
	}
	fails(t, sum+"+1", 0, api.ErrDeep)
	fails(t, strings.Repeat("1+", 99)+"12", 0, api.ErrDeep)
	fails(t, strings.Repeat("-", 199)+"1", 0, api.ErrDeep)
	fails(t, strings.Repeat("-", 200), 200, api.ErrForm)
	fails(t, strings.Repeat("(", 200), 200, api.ErrForm)
	fails(t, strings.Repeat("SUM(", 50), 200, api.ErrForm)
	// both sides of a mark count, and each part of a call
	deep := nested(15)["-"]
	for _, x := range []api.Tree{op("*", deep, number(1)), op("*", number(1), deep), call("MAX", number(1), deep, number(2)), call("IF", number(1), deep, number(3))} {
		if Deep(x) != 16 || !Right(x) || Deep(neg(x)) != 17 || Right(neg(x)) {
			t.Errorf("%s: %d", show(x), Deep(x))
		}
	}
}

// P5.1: Deep of trees that may not be
func TestDeepOfAny(t *testing.T) {
	for want, x := range map[int]api.Tree{
		1: {Kind: 77, Num: -1, Word: "x", At: api.Range{From: at(-1, 99)}},
		2: {Kind: api.Num, Kids: []api.Tree{{}, {Kind: api.Span}}},
		3: {Kind: -4, Kids: []api.Tree{{}, {Kids: []api.Tree{{}}}, {}}},
		4: neg(spanned(0, 0, 0, 0), neg(neg(neg())), neg()),
	} {
		if is := Deep(x); is != want {
			t.Errorf("%s: %d", show(x), is)
		}
	}
	if Deep(api.Tree{Kids: []api.Tree{}}) != 1 {
		t.Errorf("empty Kids are none")
	}
}

// P5.1: a text of 200 bytes, and one of 201; length goes ahead of all else
func TestLong(t *testing.T) {
	var kids []api.Tree
	s := "MIN(12345"
	kids = append(kids, number(12345))
	for len(s) < 199 {
		s += ",1"
		kids = append(kids, number(1))
	}
	if s += ")"; len(s) != 200 {
		t.Fatalf("%d bytes", len(s))
	}
	gives(t, s, call("MIN", kids...), s)
	fails(t, s+" ", 0, api.ErrFull)
	fails(t, " "+s, 0, api.ErrFull)
	fails(t, s+"+", 0, api.ErrFull)
	fails(t, strings.Repeat("0", 201), 0, api.ErrFull)
	fails(t, strings.Repeat("a", 201), 0, api.ErrFull)
	fails(t, strings.Repeat("(", 201), 0, api.ErrFull)
	fails(t, strings.Repeat("-", 1<<20), 0, api.ErrFull)
	gives(t, strings.Repeat("0", 199)+"5", number(5), "5")
}

// P5.1, P5.2: trees whose texts are longer than 200 bytes: they may be, and have their texts
func TestLongTrees(t *testing.T) {
	lost := "SUM(Q1" + strings.Repeat(",Q1", 64) + ")"
	x, from, e := Parse(lost)
	want := "SUM(#REF" + strings.Repeat(",#REF", 64) + ")"
	if from != 0 || e != api.OK || !Right(x) || Print(x) != want {
		t.Errorf("%s %d %d: %q", show(x), from, e, Print(x))
	}
	fails(t, want, 0, api.ErrFull)
	wide := call("MAX")
	chosen := call("IF", read(15, 63), number(0), bad())
	for range 10000 {
		wide.Kids = append(wide.Kids, number(greatest), op("<", chosen, bad()))
	}
	if s := Print(wide); !Right(wide) || s != "MAX("+strings.Repeat(",9223372036854775807,IF(P64,0,#REF)<#REF", 10000)[1:]+")" {
		t.Errorf("%d bytes", len(s))
	}
	full, text := op("<", number(greatest), bad()), "9223372036854775807<#REF"
	for range 7 {
		full = op("<", full, op("*", full, neg(read(15, 63))))
		text += "<(" + text + ")*-P64"
		if s := Print(full); !Right(full) || s != text {
			t.Errorf("%d deep: %d bytes, want %d", Deep(full), len(s), len(text))
		}
	}
}

// P5.1: texts of tokens that are no formula, and where
func TestNoFormula(t *testing.T) {
	for _, x := range []struct {
		s  string
		at int
	}{
		{"", 0}, {"1+", 2}, {"1 2", 2}, {"1 A1", 2}, {"A1 1", 3}, {"#REF #REF", 5}, {"1(2)", 1}, {"(1)(2)", 3}, {"(1)2", 3}, {"A1(1)", 2}, {"1 SUM(1)", 2},
		{"*1", 0}, {"+1", 0}, {"1+*2", 2}, {"1-+2", 2}, {"1*/2", 2}, {"1<", 2}, {"1<>=2", 3}, {"1<<2", 2}, {"1==2", 2}, {"=1", 0}, {"-", 1}, {"--", 2}, {"-*1", 1}, {"1-", 2}, {"1--", 3}, {"1=<2", 2},
		{"(", 1}, {")", 0}, {"()", 1}, {"(1", 2}, {"(1+", 3}, {"(1+2", 4}, {"1)", 1}, {"((1)", 4}, {"(1))", 3}, {"(1,2)", 2}, {",", 0}, {"1,2", 1}, {":", 0}, {"1:2", 1}, {"A1:B2", 2}, {"#REF:A2", 4}, {"1+#REF:A2", 6}, {"-A1:B2", 3}, {"(A1:B2)", 3}, {"A1:", 2}, {":A1", 0},
		{"SUM", 3}, {"SUM A1", 4}, {"SUM(", 4}, {"SUM()", 4}, {"SUM(1", 5}, {"SUM(1,", 6}, {"SUM(1,)", 6}, {"SUM(,1)", 4}, {"SUM(1 2)", 6}, {"SUM)", 3}, {"SUM+1", 3}, {"SUM,1", 3}, {"SUM:A1", 3}, {"SUM SUM", 4}, {"SUM(1))", 6}, {"SUM(1)2", 6}, {"SUM(1)(2)", 6}, {"SUM(1):A1", 6}, {"SUM(SUM)", 7},
		{"SUM(A1:", 7}, {"SUM(A1:)", 7}, {"SUM(A1:5)", 7}, {"SUM(A1:(B2))", 7}, {"SUM(A1:-B2)", 7}, {"SUM(A1:SUM(1))", 7}, {"SUM(A1:B2", 9}, {"SUM(A1:B2+1)", 9}, {"SUM(A1:B2:C3)", 9}, {"SUM(A1:B2 C3)", 10}, {"SUM(A1:B2(", 9}, {"SUM(1+A1:B2)", 8}, {"SUM((A1):B2)", 8}, {"SUM((A1:B2))", 7}, {"SUM(-A1:B2)", 7}, {"SUM(5:A1)", 5}, {"SUM(A1+B1:B2)", 9}, {"SUM(#REF:", 9}, {"SUM(#REF:1)", 9}, {"SUM(#REF:A1+1)", 11}, {"SUM(1:A1)", 5}, {"SUM(:A1)", 4}, {"SUM(A1::B2)", 7},
		{"COUNT(A1)", 8}, {"COUNT(1)", 6}, {"COUNT(A1:", 9}, {"COUNT()", 6}, {"COUNT(", 6}, {"COUNT", 5}, {"COUNT(-A1:B2)", 6}, {"COUNT((A1:B2))", 6}, {"COUNT(A1:B2", 11}, {"COUNT(A1:B2,", 12}, {"COUNT(A1:B2,1)", 12}, {"COUNT(A1:B2,A1)", 14}, {"COUNT(A1+1)", 8}, {"COUNT(#REF+1)", 10}, {"COUNT(#REF", 10}, {"COUNT(#REF:", 11}, {"COUNT(#REF:)", 11}, {"COUNT(#REF #REF)", 11}, {"COUNT(A1,B1:B2)", 8}, {"COUNT(SUM(1))", 6}, {"COUNT(A1:B2:C3)", 11}, {"COUNT((#REF))", 6}, {"COUNT(A1:B2)1", 12}, {"COUNT(A1 B2)", 9}, {"COUNT(A1", 8},
		{"IF", 2}, {"IF(", 3}, {"IF()", 3}, {"IF(1)", 4}, {"IF(1", 4}, {"IF(1,", 5}, {"IF(1,)", 5}, {"IF(1,2)", 6}, {"IF(1,2", 6}, {"IF(1,2,", 7}, {"IF(1,2,)", 7}, {"IF(1,2,3", 8}, {"IF(1,2,3,4)", 8}, {"IF(1,2,3,", 8}, {"IF(,1,2)", 3}, {"IF(1,,2)", 5}, {"IF(A1:B2,1,2)", 5}, {"IF(1,A1:B2,2)", 7}, {"IF(1,2,A1:B2)", 9}, {"IF(1,2,#REF:A1)", 11}, {"IF(1 2", 5}, {"IF 1", 3},
		{"1+SUM(2,IF(3,4,COUNT(5)))", 21}, {"(1+(2+(3)", 9}, {"SUM(1,(2,3))", 8}, {"SUM((1,2)", 6},
	} {
		fails(t, x.s, x.at, api.ErrForm)
		blanks := strings.Repeat(" ", 3)
		if x.at < len(x.s) {
			fails(t, blanks+x.s+blanks, x.at+3, api.ErrForm)
			fails(t, x.s+")", x.at, api.ErrForm)
		} else {
			fails(t, blanks+x.s+blanks, len(x.s)+6, api.ErrForm)
		}
	}
}

// P5.1: what the lexer tells is told as it does, ahead of what is no formula
func TestLexerErrors(t *testing.T) {
	for _, x := range []struct {
		s  string
		at int
	}{
		{"a", 0}, {"1+ a", 3}, {"1 2 a", 4}, {"SUM2(1)", 0}, {"1+SUM2", 2}, {"A01", 0}, {")) $", 3}, {"1.5", 1}, {"9223372036854775808", 0}, {"1+9223372036854775808", 2}, {"((((#RE", 4}, {"COUNT(1)\t", 8}, {"\"\"", 0}, {"A1:B2\n", 5}, {"IF(1,2) \u00e9", 8}, {"sum(1)", 0}, {"1+\x00", 2}, {"--------------------1 x", 22},
	} {
		fails(t, x.s, x.at, api.ErrForm)
		if l, from, e := lexer.Scan(x.s); len(l) != 0 || from != x.at || e != api.ErrForm {
			t.Errorf("%q: %d %d", x.s, from, e)
		}
	}
}

// alphabet is a token of each sort that a grammar tells apart, and some more marks.
func alphabet() []lexer.Token {
	l := []lexer.Token{{Kind: lexer.Num, Num: 7}, {Kind: lexer.Place, At: at(1, 2)}, {Kind: lexer.Bad}}
	for _, word := range []string{"IF", "SUM", "COUNT"} {
		l = append(l, lexer.Token{Kind: lexer.Word, Text: word})
	}
	for _, mark := range []string{"(", ")", ",", ":", "-", "*", "<"} {
		l = append(l, sign(mark))
	}
	return l
}

// every goes through all texts of so many tokens that are a formula's beginning, and those with one more.
func (c *chart) every(t *testing.T, l []lexer.Token, left int) int {
	count := 0
	for _, x := range alphabet() {
		s := spelt(append(l, x), " ")
		at := len(s) - len(spelt([]lexer.Token{x}, ""))
		if !c.put(x) {
			fails(t, s, at, api.ErrForm)
			fails(t, s+" )", at, api.ErrForm)
			continue
		}
		count++
		if !c.whole() {
			fails(t, s, len(s), api.ErrForm)
		} else if is, from, e := Parse(s); show(is) != show(plainTree(append(l, x))) || from != 0 || e != api.OK {
			t.Fatalf("%q: %s %d %d", s, show(is), from, e)
		}
		if left > 1 {
			count += c.every(t, append(l, x), left-1)
		}
		c.back()
	}
	return count
}

// P5.1: all texts of up to seven tokens
func TestEvery(t *testing.T) {
	if count := newChart().every(t, nil, 7); count < 30000 {
		t.Errorf("only %d", count)
	}
}

// walk are tokens at random that a formula may begin with; they end where a formula may end, if they may end soon.
func (c *chart) walk(r *rand.Rand, length int) []lexer.Token {
	c.sets = c.sets[:1]
	all := alphabet()
	for _, mark := range []string{"+", "/", "<=", "=", "<>", ">=", ">"} {
		all = append(all, sign(mark))
	}
	for _, word := range []string{"MIN", "MAX"} {
		all = append(all, lexer.Token{Kind: lexer.Word, Text: word})
	}
	var l []lexer.Token
	for tries := 0; tries < 2000 && (len(l) < length || !c.whole()); tries++ {
		x := all[r.IntN(len(all))]
		if len(l) >= length && x.Text != ")" && x.Text != "," && x.Kind != lexer.Num && x.Kind != lexer.Bad && x.Text != ":" && x.Text != "(" {
			continue
		}
		switch x.Kind {
		case lexer.Num:
			x.Num = r.IntN(1 << r.IntN(63))
		case lexer.Place:
			x.At = at(r.IntN(16), r.IntN(64))
		}
		if c.put(x) {
			l = append(l, x)
		}
	}
	return l
}

// P5.1: formulas at random, whole, and with a token gone, come in, or changed over
func TestWalks(t *testing.T) {
	r := rand.New(rand.NewPCG(21, 22))
	c, all := newChart(), alphabet()
	whole := 0
	for range 3000 {
		l := c.walk(r, 1+r.IntN(25))
		s := spelt(l, strings.Repeat(" ", r.IntN(2)))
		c.judge(t, s)
		if _, _, e := Parse(s); e == api.OK {
			whole++
		}
		i := r.IntN(len(l))
		switch r.IntN(4) {
		case 0:
			l = slices.Delete(l, i, i+1)
		case 1:
			l = slices.Insert(l, i, all[r.IntN(len(all))])
		case 2:
			l[i] = all[r.IntN(len(all))]
		default:
			l = l[:i]
		}
		c.judge(t, spelt(l, " "))
	}
	if whole < 1000 {
		t.Errorf("only %d were formulas", whole)
	}
}

// P1, P5.1: any tokens, and any bytes
func TestAnyTexts(t *testing.T) {
	r := rand.New(rand.NewPCG(23, 24))
	c := newChart()
	pieces := append(append(marks(), words()...), "(", ")", ",", ":", "1", "A1", "B2", "#REF", "Q1", " ", "SUM(", "COUNT(A1:B2", "IF(1,2,", "a", "", "12")
	for range 30000 {
		s := ""
		for range r.IntN(12) {
			s += pieces[r.IntN(len(pieces))]
		}
		c.judge(t, s)
		b := make([]byte, r.IntN(12))
		for i := range b {
			b[i] = byte(r.Uint32())
		}
		c.judge(t, string(b))
	}
}

// P5.1: a tree that has what its kind has not, or not what it has
func TestMayNot(t *testing.T) {
	one := api.Range{From: at(1, 2), To: at(1, 2)}
	all := []api.Tree{number(5), read(1, 2), bad(), neg(number(5)), op("+", number(1), number(2)), call("SUM", number(1)), call("IF", number(1), number(2), number(3)), call("COUNT", spanned(1, 2, 3, 4)), call("COUNT", bad()), spanned(1, 2, 1, 2)}
	for _, x := range all {
		y := x
		if x.Kind != api.Num {
			for _, n := range []int{1, -1, greatest, -1 << 63} {
				y.Num = n
				mayNot(t, y)
			}
		}
		if y = x; x.Kind != api.Read && x.Kind != api.Span {
			for _, l := range []api.Range{one, {From: at(0, 1)}, {From: at(1, 0)}, {To: at(0, 1)}, {To: at(1, 0)}, {From: at(-1, 0)}, {To: at(0, 99)}} {
				y.At = l
				mayNot(t, y)
			}
		}
		if y = x; x.Kind != api.Op && x.Kind != api.Call {
			for _, word := range []string{"+", "SUM", " ", "x", "\x00", "-", "#REF"} {
				y.Word = word
				mayNot(t, y)
			}
		}
		if y = x; len(x.Kids) == 0 {
			for _, kids := range [][]api.Tree{{{}}, {{}, {}}, {bad()}, {spanned(0, 0, 1, 1)}, {number(1), number(2), number(3)}} {
				y.Kids = kids
				mayNot(t, y)
			}
		}
	}
}

// P5.1: kinds that are none
func TestNoKind(t *testing.T) {
	for _, kind := range []api.Kind{-1, 7, 8, -7, 99, 256, 1 << 32, -1 << 63, greatest} {
		for _, kids := range [][]api.Tree{nil, {number(1)}, {number(1), number(2)}, {number(1), number(2), number(3)}} {
			for _, word := range []string{"", "+", "SUM", "IF"} {
				mayNot(t, api.Tree{Kind: kind, Kids: kids, Word: word})
			}
		}
		mayNot(t, api.Tree{Kind: kind, Num: 5})
		mayNot(t, api.Tree{Kind: kind, At: api.Range{To: at(3, 3)}})
	}
}

// P5.1: numbers, places and Ranges that may not be
func TestNoPlace(t *testing.T) {
	for _, n := range []int{-1, -2, -greatest, -1 << 63} {
		mayNot(t, number(n))
	}
	for _, p := range []api.Place{at(-1, 0), at(0, -1), at(16, 0), at(0, 64), at(16, 64), at(-1, -1), at(1<<62, 0), at(0, -1<<63), at(1024, 0)} {
		mayNot(t, read(p.Col, p.Row))
		for _, q := range []api.Place{p, at(0, 0), at(15, 63), at(3, 4)} {
			for _, word := range words()[1:] {
				for _, l := range []api.Range{{From: p, To: q}, {From: q, To: p}} {
					x := call(word, api.Tree{Kind: api.Span, At: l})
					if Right(x) || Print(x) != "" {
						t.Errorf("%s may be", show(x))
					}
				}
			}
		}
	}
	for _, l := range []api.Range{{To: at(1, 0)}, {To: at(0, 1)}, {From: at(1, 0)}, {From: at(0, 1)}, {From: at(2, 2), To: at(3, 3)}, {From: at(15, 63)}, {To: at(16, 0)}} {
		mayNot(t, api.Tree{Kind: api.Read, At: l})
	}
	for _, l := range []api.Range{{From: at(1, 0)}, {From: at(0, 1)}, {From: at(1, 0), To: at(0, 1)}, {From: at(0, 1), To: at(1, 0)}, {From: at(3, 4), To: at(2, 9)}, {From: at(3, 4), To: at(9, 3)}} {
		for _, word := range words()[1:] {
			x := call(word, api.Tree{Kind: api.Span, At: l})
			if Right(x) || Print(x) != "" {
				t.Errorf("%s may be", show(x))
			}
		}
	}
	// a Span is none of the things that stand alone, or in a Neg, an Op, an IF
	x := spanned(0, 0, 1, 1)
	for _, y := range []api.Tree{x, neg(x), op("+", x, number(1)), op("<", number(1), x), op("*", x, x), call("IF", x, number(1), number(2)), call("IF", number(1), x, number(2)), call("IF", number(1), number(2), x), call("SUM", neg(x)), call("COUNT", neg(x)), call("SUM", call("IF", x, x, x))} {
		if Right(y) || Print(y) != "" {
			t.Errorf("%s may be", show(y))
		}
	}
}

// P5.1: words that are none, and too few and too many Kids
func TestNoWord(t *testing.T) {
	for n := range 6 {
		kids, corners := make([]api.Tree, n), make([]api.Tree, n)
		for i := range n {
			kids[i], corners[i] = number(i), spanned(0, 0, i, i)
		}
		if is := Right(neg(kids...)); is != (n == 1) {
			t.Errorf("- of %d: %v", n, is)
		}
		for _, mark := range marks() {
			if is := Right(op(mark, kids...)); is != (n == 2) {
				t.Errorf("%s of %d: %v", mark, n, is)
			}
			if Right(call(mark, kids...)) {
				t.Errorf("%s is called with %d", mark, n)
			}
		}
		for _, word := range words() {
			if is := Right(call(word, kids...)); is != (word == "IF" && n == 3 || word != "IF" && word != "COUNT" && n > 0) {
				t.Errorf("%s of %d: %v", word, n, is)
			}
			if is := Right(call(word, corners...)); is != (word != "IF" && n > 0) {
				t.Errorf("%s of %d corners: %v", word, n, is)
			}
			if Right(op(word, kids...)) {
				t.Errorf("%s is a mark of %d", word, n)
			}
		}
		for _, word := range []string{"", " ", "%", "(", ")", ",", ":", "<<", "==", "><", "=<", "!=", "+ ", " +", "++", "AVG", "if", "sum", "SUM ", "SUMS", "SU", "I", "COUNTA", "#REF", "A1", "1", "-1", "< <=", "+,-", "*\x00"} {
			for _, x := range []api.Tree{op(word, kids...), call(word, kids...), call(word, corners...)} {
				if Right(x) || Print(x) != "" {
					t.Errorf("%s may be", show(x))
				}
			}
		}
	}
	for _, kid := range []api.Tree{number(1), read(0, 0), neg(number(1)), neg(bad()), op("+", number(1), number(2)), call("SUM", number(1)), call("COUNT", bad()), {Kind: -1}, {Kind: 7}} {
		for _, x := range []api.Tree{call("COUNT", kid), call("COUNT", bad(), kid), call("COUNT", kid, spanned(0, 0, 1, 1))} {
			if Right(x) || Print(x) != "" {
				t.Errorf("%s may be", show(x))
			}
		}
	}
}

// grown is a tree at random that may be, not deeper than asked for.
func grown(r *rand.Rand, deep int) api.Tree {
	which := r.IntN(9)
	if deep <= 1 {
		which = r.IntN(3)
	}
	switch which {
	case 0:
		return number(r.IntN(1 << r.IntN(63)))
	case 1:
		return read(r.IntN(16), r.IntN(64))
	case 2:
		return bad()
	case 3:
		return neg(grown(r, deep-1))
	case 4, 5, 6:
		return op(marks()[r.IntN(10)], grown(r, deep-1), grown(r, deep-1))
	case 7:
		return call("IF", grown(r, deep-1), grown(r, deep-1), grown(r, deep-1))
	}
	word := words()[1+r.IntN(4)]
	x := call(word)
	for range 1 + r.IntN(3) {
		col, row := r.IntN(16), r.IntN(64)
		kid := spanned(col, row, col+r.IntN(16-col), row+r.IntN(64-row))
		if word == "COUNT" && r.IntN(3) == 0 {
			kid = bad()
		} else if word != "COUNT" && r.IntN(2) == 0 {
			kid = grown(r, deep-1)
		}
		x.Kids = append(x.Kids, kid)
	}
	return x
}

// P5.1, P5.2: trees at random: there and back, by their shortest texts, and by longer ones
func TestThereAndBack(t *testing.T) {
	r := rand.New(rand.NewPCG(25, 26))
	c := newChart()
	short := 0
	for range 2500 {
		x := grown(r, 1+r.IntN(5))
		l := tokens(x)
		if len(l) > 150 {
			continue
		}
		if !c.weigh(t, x) {
			t.Fatalf("%s may not be", show(x))
		}
		for _, s := range []string{Print(x), spelt(l, ""), spelt(l, " "), "(" + Print(x) + ")"} {
			is, from, e := Parse(s)
			if len(s) > 200 {
				if e != api.ErrFull {
					t.Fatalf("%q: %d", s, e)
				}
				continue
			}
			short++
			if show(is) != show(x) || !Same(is, x) || from != 0 || e != api.OK {
				t.Fatalf("%s: %q: %s %d %d", show(x), s, show(is), from, e)
			}
		}
	}
	if short < 4000 {
		t.Errorf("only %d texts", short)
	}
}

// parts are all parts of a tree, itself the first one.
func parts(x *api.Tree) []*api.Tree {
	l := []*api.Tree{x}
	for i := range x.Kids {
		l = append(l, parts(&x.Kids[i])...)
	}
	return l
}

// hurt changes something of a tree at random.
func hurt(r *rand.Rand, x *api.Tree) {
	switch r.IntN(7) {
	case 0:
		x.Kind = api.Kind(r.IntN(9) - 1)
	case 1:
		x.Num = []int{0, 1, -1, 7}[r.IntN(4)]
	case 2:
		x.At.From = at(r.IntN(18)-1, r.IntN(66)-1)
	case 3:
		x.At.To = at(r.IntN(18)-1, r.IntN(66)-1)
	case 4:
		x.At.To = x.At.From
	case 5:
		x.Word = append(append(marks(), words()...), "", "%", "(")[r.IntN(18)]
	default:
		switch n := len(x.Kids); r.IntN(3) {
		case 0:
			x.Kids = append(x.Kids[:n:n], []api.Tree{number(1), bad(), spanned(0, 0, 1, 1), neg(number(2))}[r.IntN(4)])
		case 1:
			x.Kids = nil
		default:
			x.Kids = x.Kids[:max(n-1, 0)]
		}
	}
}

// P1, P5.1: trees at random that may not be, and some that may
func TestHurt(t *testing.T) {
	r := rand.New(rand.NewPCG(27, 28))
	c := newChart()
	may, not := 0, 0
	for range 6000 {
		x := grown(r, 1+r.IntN(3))
		for range 1 + r.IntN(2) {
			l := parts(&x)
			hurt(r, l[r.IntN(len(l))])
		}
		if len(tokens(x)) > 100 {
			continue
		}
		if c.weigh(t, x) {
			may++
		} else {
			not++
		}
	}
	if may < 500 || not < 2000 {
		t.Errorf("only %d and %d", may, not)
	}
}

// P5.1: Same looks at all that two trees have
func TestSame(t *testing.T) {
	all := []api.Tree{
		{}, number(1), number(-1), read(0, 0), read(1, 0), read(0, 1), bad(), {Kind: 7}, {Kind: -1}, {Word: "x"}, {Word: "X"}, {At: api.Range{From: at(1, 0)}}, {At: api.Range{From: at(0, 1)}}, {At: api.Range{To: at(1, 0)}}, {At: api.Range{To: at(0, 1)}},
		spanned(0, 0, 0, 0), spanned(0, 0, 0, 1), neg(), neg(number(0)), neg(number(1)), neg(neg(number(1))), neg(number(1), number(1)), neg(number(1), number(2)), neg(number(2), number(1)), op("+"), op("-"), op("+", number(1), number(2)), op("-", number(1), number(2)), op("+", number(2), number(1)), op("+", op("+", number(1), number(2)), number(3)), op("+", number(1), op("+", number(2), number(3))),
		call("SUM", number(1), number(2)), call("MIN", number(1), number(2)), call("SUM", number(1), number(2), number(3)), call("SUM", neg(number(1)), number(2)), call("SUM", number(1), neg(number(2))), call("SUM"), call(""), call("SUM", call("SUM", number(1))), call("SUM", call("SUM", number(2))),
	}
	for i, a := range all {
		for j, b := range all {
			if is := Same(a, b); is != (i == j) {
				t.Errorf("%s, %s: %v", show(a), show(b), is)
			}
			if is := Same(neg(number(1), a), neg(number(1), b)); is != (i == j) {
				t.Errorf("in a tree %s, %s: %v", show(a), show(b), is)
			}
		}
	}
	// a list without elements may be nil or not
	if a, b := number(1), (api.Tree{Num: 1, Kids: []api.Tree{}}); !Same(a, b) || !Same(b, a) || !Right(b) || Print(b) != "1" || Deep(b) != 1 {
		t.Errorf("empty Kids are not as none")
	}
	if x := call("SUM", api.Tree{Kind: api.Bad, Kids: []api.Tree{}}, api.Tree{Kind: api.Span, Kids: make([]api.Tree, 0, 3)}); !Right(x) || Print(x) != "SUM(#REF,A1:A1)" {
		t.Errorf("empty Kids are not as none: %q", Print(x))
	}
}

// P1: trees that are much too deep, and trees that have themselves
func TestEnds(t *testing.T) {
	deep, other := number(1), number(2)
	for range 1<<16 - 1 {
		deep, other = neg(deep), neg(other)
	}
	if Right(deep) || Print(deep) != "" || Deep(deep) != 1<<16 || !Same(deep, deep) || Same(deep, other) {
		t.Errorf("65536 deep: %d", Deep(deep))
	}
	ring := make([]api.Tree, 2)
	ring[0], ring[1] = op("+", ring...), number(1)
	if x := op("+", ring...); Right(x) || Print(x) != "" || Right(call("SUM", ring...)) {
		t.Errorf("a ring may be")
	}
	twice := number(1)
	for range 60 {
		kids := []api.Tree{twice, twice}
		twice = op("*", kids...)
	}
	if Right(twice) || Print(twice) != "" {
		t.Errorf("61 deep, and twice as wide each time: may be")
	}
	shared := number(1)
	for range 15 {
		shared = op("*", shared, shared)
	}
	if s := Print(shared); !Right(shared) || Deep(shared) != 16 || strings.Count(s, "1") != 1<<15 || strings.Count(s, "(") != 1<<14-1 {
		t.Errorf("%d bytes, %d ones, %d brackets", len(s), strings.Count(s, "1"), strings.Count(s, "("))
	}
}

// Rule 4: what is handed in is not written into, what lies behind a list's length is not looked at, what is answered is new memory
func TestMemory(t *testing.T) {
	room := []api.Tree{number(1), {Kind: 9}, {Kind: 9}, {Kind: 9}}
	x := call("SUM", room[:1]...)
	if !Right(x) || Print(x) != "SUM(1)" || Deep(x) != 2 || !Same(x, call("SUM", number(1))) {
		t.Errorf("what lies behind was looked at: %q", Print(x))
	}
	if show(api.Tree{Kids: room}) != show(api.Tree{Kids: []api.Tree{number(1), {Kind: 9}, {Kind: 9}, {Kind: 9}}}) {
		t.Errorf("what lies behind was written into")
	}
	const s = "SUM(A1:B2,1+1,1+1,MAX(2),MAX(2))"
	a, _, _ := Parse(s)
	b, _, _ := Parse(s)
	want := show(a)
	for _, p := range parts(&a) {
		p.Kind, p.Num, p.Word, p.At = 7, 9, "x", api.Range{To: at(9, 9)}
		_ = append(p.Kids, api.Tree{Kind: 8})
	}
	if show(b) != want || Print(b) != s {
		t.Errorf("%s, want %s", show(b), want)
	}
	// no two lists of one answer share memory, nor any room behind them
	for i, p := range parts(&b) {
		before := show(b)
		kids := append(p.Kids, number(77))
		kids[len(kids)-1].Num = 78
		if show(b) != before {
			t.Errorf("part %d shares memory: %s", i, show(b))
		}
	}
}

// P2: what was asked ahead changes no answer
func TestSameAnswer(t *testing.T) {
	ask := func() string {
		a, from, e := Parse("IF(A1>=007,COUNT(A1:A1),-(1+2)*3)")
		b, where, errno := Parse("SUM((A1):B2)")
		return fmt.Sprint(show(a), from, e, show(b), where, errno, Print(a), Print(b), Right(a), Deep(a), Same(a, b))
	}
	first := ask()
	for _, s := range []string{"", "1+", "a", strings.Repeat("-", 40) + "1", strings.Repeat("1", 201), "1+2*3", "IF("} {
		x, _, _ := Parse(s)
		Print(x)
		Right(neg(x, x))
		Deep(op("%", x))
	}
	if again := ask(); again != first {
		t.Errorf("%s, then %s", first, again)
	}
}
