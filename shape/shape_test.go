package shape

import (
	"fmt"
	"math/rand/v2"
	"regexp"
	"slices"
	"strconv"
	"strings"
	"testing"

	"gridiron/api"
	"gridiron/syntax"
)

// What a tree reads, how it moves, and how many parts it has, is held here against the text that syntax has of it:
// each place that stands there is read, or an end of a Span; each token that is no bracket, `,` or `:` is a part, a Range being one.
const (
	corner = `[A-P][0-9]+`
	lost   = "#REF"
)

const (
	most  = 1<<63 - 1
	least = -1 << 63
)

var (
	reading = regexp.MustCompile(corner + `(?::` + corner + `)?`)
	part    = regexp.MustCompile(reading.String() + `|#REF|[A-Z]+|[0-9]+|<=|<>|>=|[-+*/<=>]`)
)

func at(col, row int) api.Place { return api.Place{Col: col, Row: row} }

// tree is a text's.
func tree(t *testing.T, s string) api.Tree {
	t.Helper()
	x, from, e := syntax.Parse(s)
	if e != api.OK {
		t.Fatalf("%q: %d %d", s, from, e)
	}
	return x
}

// show tells all that a tree has.
func show(t api.Tree) string {
	var kids []string
	for _, kid := range t.Kids {
		kids = append(kids, show(kid))
	}
	return fmt.Sprintf("{%d %d %v %q %s}", t.Kind, t.Num, t.At, t.Word, kids)
}

// spelt is a place's text.
func spelt(p api.Place) string { return fmt.Sprintf("%c%d", 'A'+p.Col, p.Row+1) }

// told is the place of a text.
func told(s string) api.Place {
	row, _ := strconv.Atoi(s[1:])
	return at(int(s[0]-'A'), row-1)
}

// all are the places of a sheet, by their indexes.
func all() []api.Place {
	var l []api.Place
	for i := range 1024 {
		l = append(l, at(i%16, i/16))
	}
	return l
}

// wrong are places that may not be.
func wrong() []api.Place {
	l := []api.Place{at(-1, 0), at(0, -1), at(-1, -1), at(16, 0), at(0, 64), at(16, 64), at(15, 64), at(16, 63), at(-16, 1), at(32, -1), at(1024, 0), at(0, 1024)}
	for _, n := range []int{most, least, least + 1, 1 << 32, -1 << 32, 1 << 62} {
		l = append(l, at(n, 0), at(0, n), at(n, n), at(n, 3), at(2, n))
	}
	return l
}

// shifted is a number from 0 on, below an end, so much on; false, if it is out of that then.
func shifted(n, by, end int) (int, bool) {
	if by < -end || by > end {
		return 0, false
	}
	n += by
	return n, n >= 0 && n < end
}

// movedText is the text of a tree's text, moved.
func movedText(s string, by api.Place) string {
	return reading.ReplaceAllStringFunc(s, func(s string) string {
		ends := strings.Split(s, ":")
		for i, end := range ends {
			p := told(end)
			col, in := shifted(p.Col, by.Col, 16)
			row, too := shifted(p.Row, by.Row, 64)
			if !in || !too {
				return lost
			}
			ends[i] = spelt(at(col, row))
		}
		return strings.Join(ends, ":")
	})
}

// readIn are the places that a tree's text has, by their indexes.
func readIn(s string) []api.Place {
	has := map[api.Place]bool{}
	for _, s := range reading.FindAllString(s, -1) {
		ends := strings.Split(s, ":")
		from, to := told(ends[0]), told(ends[len(ends)-1])
		for col := from.Col; col <= to.Col; col++ {
			for row := from.Row; row <= to.Row; row++ {
				has[at(col, row)] = true
			}
		}
	}
	var l []api.Place
	for _, p := range all() {
		if has[p] {
			l = append(l, p)
		}
	}
	return l
}

// moves holds a tree, moved, against its text, moved; it tells the tree.
func moves(t *testing.T, x api.Tree, by api.Place) api.Tree {
	t.Helper()
	y, e := Shift(x, by)
	if s, want := syntax.Print(y), movedText(syntax.Print(x), by); s != want || e != api.OK {
		t.Fatalf("%s by %v: %q %d, want %q", syntax.Print(x), by, s, e, want)
	}
	return y
}

// returns holds P6.2 of a tree, moved by so much; it tells whether nothing was lost.
func returns(t *testing.T, x api.Tree, by api.Place) bool {
	t.Helper()
	y := moves(t, x, by)
	if Bads(y) != Bads(x) {
		return false
	}
	was, is := Reads(x), Reads(y)
	for i := range was {
		was[i] = at(was[i].Col+by.Col, was[i].Row+by.Row)
	}
	if !slices.Equal(was, is) {
		t.Fatalf("%s by %v reads %v, want %v", syntax.Print(x), by, is, was)
	}
	if back, e := Shift(y, at(-by.Col, -by.Row)); e != api.OK || !syntax.Same(back, x) || show(back) != show(x) {
		t.Fatalf("%s by %v and back: %s %d", show(x), by, show(back), e)
	}
	return true
}

// judge holds all that is told of a tree against its text, which is no matter how long.
func judge(t *testing.T, x api.Tree) {
	t.Helper()
	s := syntax.Print(x)
	want := readIn(s)
	if l := Reads(x); !slices.Equal(l, want) {
		t.Fatalf("%s reads %v, want %v", s, l, want)
	}
	for _, p := range all() {
		if is := Uses(x, p); is != slices.Contains(want, p) {
			t.Fatalf("%s, %s: %t", s, spelt(p), is)
		}
	}
	for _, p := range wrong() {
		if Uses(x, p) {
			t.Fatalf("%s uses %v", s, p)
		}
	}
	if n := Bads(x); n != strings.Count(s, lost) {
		t.Fatalf("%s: %d Bads", s, n)
	}
	if n := Size(x); n != len(part.FindAllString(s, -1)) {
		t.Fatalf("%s: %d parts", s, n)
	}
}

// some are texts of trees of all sorts.
func some() []string {
	return []string{
		"0", "9223372036854775807", "A1", "P64", "C7", "#REF", "-A1", "--#REF", "1+2", "A1+A1", "B1+A2", "J10-J9", "#REF+#REF*#REF", "A1<P64", "1-2-3", "1-(2-3)", "(1<2)=(3>4)", "-(A1<=#REF)<>B2",
		"IF(A1>4,1,1/0)", "IF(A1,B1,C1)", "IF(#REF,-#REF,C1)", "SUM(A1)", "SUM(A1:A1)", "SUM(C3:C3,C3,C3:C3)", "SUM(A1:P64)", "MIN(P64:P64)", "MAX(A1:A1,P64)", "SUM(B2:C3,C3:D4)", "SUM(B2:D4,C3)", "MIN(A1:D1,B1:B4)", "SUM(A1:B2,A1:B2)+A1*B2",
		"COUNT(A1:C1)", "COUNT(#REF)", "COUNT(#REF,D5:H9,#REF)", "COUNT(A1:A64,P1:P64)", "COUNT(A1:P1)-COUNT(A64:P64)", "MAX(#REF,A1:C3,#REF,5)", "SUM(Q1:A1,A1:Z9,B7:A9)", "MIN(1,-2,IF(A1=5,SUM(A1:C9),COUNT(O1:P3)))", "SUM(H30:I35)+H30-IF(I35,G29,J36)", "SUM(SUM(SUM(SUM(E5:F6))))",
	}
}

// P6.1: what the document's words come to
func TestReads(t *testing.T) {
	for s, want := range map[string]string{
		"0": "", "1+2*3": "", "#REF": "", "-#REF": "", "IF(1,2,3)": "", "COUNT(#REF)": "", "SUM(#REF:A1)": "", "MAX(A1:Q1,B65)": "", "SUM(1,2)": "",
		"A1": "A1", "P64": "P64", "-C7": "C7", "--C7": "C7", "A1+A1": "A1", "A1*A1-A1": "A1", "P64+A1": "A1 P64",
		"B1+A2": "B1 A2", "A2+B1": "B1 A2", "P1<A2": "P1 A2", "A10=A9": "A9 A10", "J10/J9": "J9 J10", "C1+B1+A1": "A1 B1 C1", "C3+A1+C1+A3": "A1 C1 A3 C3",
		"SUM(A1)": "A1", "SUM(A1:A1)": "A1", "COUNT(P64:P64)": "P64", "SUM(A1:A1,A1)": "A1", "COUNT(C3:C3,C3:C3)": "C3",
		"SUM(A1:B2)": "A1 B1 A2 B2", "MIN(B2:A1)": "A1 B1 A2 B2", "MAX(A2:B1)": "A1 B1 A2 B2", "COUNT(A1:C1)": "A1 B1 C1", "COUNT(A1:A3)": "A1 A2 A3",
		"SUM(A1:B2,B2:C3)": "A1 B1 A2 B2 C2 B3 C3", "SUM(B2:C3,A1:B2)": "A1 B1 A2 B2 C2 B3 C3", "SUM(A1:C3,B2,B2:B2)": "A1 B1 C1 A2 B2 C2 A3 B3 C3", "MAX(B1:B3,A2:C2)": "B1 A2 B2 C2 B3",
		"SUM(B2:C2,B2)+A1*#REF": "A1 B2 C2", "IF(A1>4,B1,C1)": "A1 B1 C1", "IF(1,2,C1)": "C1", "IF(#REF,B1,2)": "B1", "MIN(SUM(D4,IF(C3,B2,A1)),-E5)": "A1 B2 C3 D4 E5",
		"COUNT(#REF,A1:A2,#REF)": "A1 A2", "SUM(Q1,C1,A65:B2,B1)": "B1 C1",
	} {
		var l []string
		for _, p := range Reads(tree(t, s)) {
			l = append(l, spelt(p))
		}
		if is := strings.Join(l, " "); is != want {
			t.Errorf("%s reads %q, want %q", s, is, want)
		}
	}
	if l := Reads(tree(t, "SUM(P64:A1)")); !slices.Equal(l, all()) {
		t.Errorf("all are %v", l)
	}
}

// P6.1: a Kid that is 0, or a part that is none's, is at no place, though its range is A1's
func TestNothingAtFirst(t *testing.T) {
	for _, s := range []string{"0", "#REF", "-0", "0+0", "IF(0,0,0)", "SUM(0)", "COUNT(#REF)", "SUM(B2,0,#REF)", "P64*0"} {
		x := tree(t, s)
		if Uses(x, at(0, 0)) || slices.Contains(Reads(x), at(0, 0)) {
			t.Errorf("%s reads A1", s)
		}
	}
}

// P6.1: all that is told of trees of all sorts, and of some that are built on them
func TestSome(t *testing.T) {
	for _, a := range some() {
		x := tree(t, a)
		judge(t, x)
		for _, b := range some() {
			judge(t, api.Tree{Kind: api.Call, Word: "MAX", Kids: []api.Tree{tree(t, b), x, {Kind: api.Neg, Kids: []api.Tree{x}}}})
		}
	}
}

// P6.1: how many Bads, and how many parts
func TestCounts(t *testing.T) {
	for s, want := range map[string][2]int{
		"0": {0, 1}, "A1": {0, 1}, "#REF": {1, 1}, "Q1": {1, 1}, "(((A1)))": {0, 1}, "-5": {0, 2}, "--#REF": {1, 3}, "1+2": {0, 3}, "1-2-3": {0, 5}, "#REF<#REF": {2, 3},
		"SUM(1)": {0, 2}, "SUM(A1:B2)": {0, 2}, "COUNT(A1:P64)": {0, 2}, "COUNT(#REF)": {1, 2}, "SUM(#REF:A1)": {1, 2}, "SUM(#REF:#REF)": {1, 2}, "IF(1,2,3)": {0, 4}, "IF(#REF,A1,Z9)": {2, 4}, "MIN(1,2,3,4,5)": {0, 6},
		"SUM(B2:C2,B2)+A1*#REF": {1, 7}, "MAX(SUM(#REF,1),-#REF)+IF(1,2,#REF)": {3, 11},
	} {
		x := tree(t, s)
		if is := [2]int{Bads(x), Size(x)}; is != want {
			t.Errorf("%s: %v, want %v", s, is, want)
		}
	}
}

// P6.1: where a move is still one, and where it is none any more
func TestShift(t *testing.T) {
	for _, x := range []struct {
		s    string
		by   api.Place
		want string
	}{
		{"A1+C1", at(0, 1), "A2+C2"}, {"A1+C1", at(-1, 0), "#REF+B1"}, {"A1+C1", at(0, 0), "A1+C1"}, {"A1+C1", at(2, 3), "C4+E4"},
		{"A1", at(15, 63), "P64"}, {"A1", at(16, 0), "#REF"}, {"A1", at(0, 64), "#REF"}, {"A1", at(-1, 0), "#REF"}, {"A1", at(0, -1), "#REF"}, {"P64", at(-15, -63), "A1"}, {"P64", at(1, 0), "#REF"}, {"P64", at(0, 1), "#REF"}, {"P64", at(-16, 0), "#REF"}, {"P64", at(0, -64), "#REF"}, {"P1", at(1, 0), "#REF"}, {"A2", at(-1, 0), "#REF"},
		{"SUM(B2:C3)", at(-1, -1), "SUM(A1:B2)"}, {"SUM(B2:C3)", at(-2, 0), "SUM(#REF)"}, {"SUM(B2:C3)", at(0, -2), "SUM(#REF)"}, {"SUM(B2:C3)", at(13, 61), "SUM(O63:P64)"}, {"SUM(B2:C3)", at(14, 0), "SUM(#REF)"}, {"SUM(B2:C3)", at(0, 62), "SUM(#REF)"}, {"SUM(B2:C3)", at(-3, 0), "SUM(#REF)"}, {"SUM(B2:C3)", at(0, 99), "SUM(#REF)"},
		{"SUM(C3:B2)", at(1, 1), "SUM(C3:D4)"}, {"COUNT(A1:P64)", at(0, 0), "COUNT(A1:P64)"}, {"COUNT(A1:P64)", at(1, 0), "COUNT(#REF)"}, {"COUNT(A1:P64)", at(0, -1), "COUNT(#REF)"}, {"COUNT(C3:C3)", at(-2, -2), "COUNT(A1:A1)"}, {"COUNT(C3:C3)", at(-3, -2), "COUNT(#REF)"}, {"COUNT(C3:D3,B3:C3)", at(-2, 0), "COUNT(A3:B3,#REF)"},
		{"7", at(9, 9), "7"}, {"#REF", at(1, 1), "#REF"}, {"#REF", at(99, -99), "#REF"}, {"1+2", at(most, least), "1+2"}, {"-A1", at(1, 0), "-B1"}, {"-(A1+B1)", at(-1, 0), "-(#REF+A1)"}, {"A1-(B1-C1)", at(-1, 1), "#REF-(A2-B2)"},
		{"IF(A1>4,B2,#REF)", at(1, 1), "IF(B2>4,C3,#REF)"}, {"IF(A1,B1,C1)", at(-2, 0), "IF(#REF,#REF,A1)"}, {"MAX(A1,A1:B1,-B1,5)", at(15, 0), "MAX(P1,#REF,-#REF,5)"}, {"MIN(IF(A1,SUM(B2:C3),0),#REF)", at(-1, 0), "MIN(IF(#REF,SUM(A2:B3),0),#REF)"},
	} {
		y, e := Shift(tree(t, x.s), x.by)
		if want := tree(t, x.want); show(y) != show(want) || !syntax.Same(y, want) || e != api.OK {
			t.Errorf("%s by %v: %s %d, want %s", x.s, x.by, show(y), e, x.want)
		}
	}
}

// P6.1, P6.2: all moves about the sheet, and those that are far off
func TestAllMoves(t *testing.T) {
	for _, s := range []string{"A1", "P64", "H30", "SUM(A1:P64)", "COUNT(B2:D9,P1:P64)", "IF(A1>#REF,-H30*7,SUM(H30:I35,O63))"} {
		x := tree(t, s)
		for col := -17; col <= 17; col++ {
			for row := -65; row <= 65; row++ {
				returns(t, x, at(col, row))
			}
		}
		for _, n := range []int{1 << 8, 1 << 16, 1 << 31, 1 << 32, 1<<53 + 1, 1 << 62, most} {
			for _, m := range []int{0, 1, n, -n, most, least} {
				for _, by := range []api.Place{at(n, m), at(-n, m), at(m, n), at(m, -n), at(least, m), at(m, least)} {
					y := moves(t, x, by)
					if by.Col != 0 && len(Reads(y)) != 0 {
						t.Errorf("%s by %v: %s", s, by, syntax.Print(y))
					}
				}
			}
		}
	}
}

// P6.1, P6.2: moved by nothing a tree is what it was; so it is, moved there and back, if nothing was lost
func TestThereAndBack(t *testing.T) {
	for _, s := range some() {
		x := tree(t, s)
		if !returns(t, x, at(0, 0)) || show(moves(t, x, at(0, 0))) != show(x) {
			t.Errorf("%s, moved by nothing, is another one", s)
		}
		for _, by := range []api.Place{at(1, 0), at(0, 1), at(-1, 0), at(0, -1), at(5, 7), at(-5, -7), at(15, 63), at(-15, -63), at(-15, 63)} {
			kept := returns(t, x, by)
			if want := !strings.Contains(movedText(syntax.Print(x), by), lost); want && !kept {
				t.Errorf("%s by %v lost something", s, by)
			}
		}
	}
	// what was lost doesn't come again
	x := tree(t, "A1+SUM(A1:B2)")
	y, _ := Shift(x, at(-1, 0))
	back, e := Shift(y, at(1, 0))
	if s := syntax.Print(back); s != "#REF+SUM(#REF)" || e != api.OK || returns(t, x, at(-1, 0)) {
		t.Errorf("%q %d", s, e)
	}
}

// anywhere is a place's text at random.
func anywhere(r *rand.Rand) string { return spelt(at(r.IntN(16), r.IntN(64))) }

// grown is a formula's text at random, with places near one another, if so asked.
func grown(r *rand.Rand, deep int, place func(*rand.Rand) string) string {
	kinds := 9
	if deep == 1 {
		kinds = 4
	}
	kid := func() string { return grown(r, deep-1, place) }
	span := func() string { return place(r) + ":" + place(r) }
	switch r.IntN(kinds) {
	case 0:
		return strconv.Itoa(r.IntN(1 << r.IntN(20)))
	case 1, 2:
		return place(r)
	case 3:
		return lost
	case 4:
		return "-(" + kid() + ")"
	case 5:
		marks := []string{"+", "-", "*", "/", "<", "<=", "=", "<>", ">=", ">"}
		return "(" + kid() + marks[r.IntN(len(marks))] + kid() + ")"
	case 6:
		return "IF(" + kid() + "," + kid() + "," + kid() + ")"
	case 7:
		return "COUNT(" + []string{"", lost + ",", span() + ","}[r.IntN(3)] + span() + ")"
	}
	s := []string{"SUM(", "MIN(", "MAX("}[r.IntN(3)] + span()
	for range r.IntN(3) {
		s += "," + []func() string{span, kid}[r.IntN(2)]()
	}
	return s + ")"
}

// P6.1, P6.2: trees at random, and moves of them
func TestRandom(t *testing.T) {
	r := rand.New(rand.NewPCG(61, 62))
	near := func(r *rand.Rand) string { return spelt(at(6+r.IntN(4), 30+r.IntN(4))) }
	count, kept, gone := 0, 0, 0
	for count < 3000 {
		s := grown(r, 1+r.IntN(5), []func(*rand.Rand) string{anywhere, near}[r.IntN(2)])
		if len(s) > 200 {
			continue
		}
		count++
		x := tree(t, s)
		judge(t, x)
		for range 10 {
			if returns(t, x, at(r.IntN(13)-6, r.IntN(49)-24)) {
				kept++
			} else {
				gone++
			}
		}
	}
	if kept < 5000 || gone < 5000 {
		t.Errorf("only %d and %d", kept, gone)
	}
}

// nothing holds that nothing is told of a tree that may not be.
func nothing(t *testing.T, x api.Tree) {
	t.Helper()
	if l, bads, size := Reads(x), Bads(x), Size(x); len(l) != 0 || bads != 0 || size != 0 {
		t.Errorf("%s: %v %d %d", show(x), l, bads, size)
	}
	for _, p := range []api.Place{at(0, 0), at(1, 2), at(15, 63), at(-1, 0)} {
		if Uses(x, p) {
			t.Errorf("%s uses %v", show(x), p)
		}
	}
	for _, by := range []api.Place{at(0, 0), at(1, 1), at(-1, 0), at(most, least)} {
		if y, e := Shift(x, by); e != api.ErrArg || show(y) != show(api.Tree{}) {
			t.Errorf("%s by %v: %s %d", show(x), by, show(y), e)
		}
	}
}

// P6.1: trees that may not be, alone, and as the last part of one that else might
func TestMayNot(t *testing.T) {
	read := tree(t, "B3")
	call := func(word string, kids ...api.Tree) api.Tree {
		return api.Tree{Kind: api.Call, Word: word, Kids: kids}
	}
	span := api.Tree{Kind: api.Span, At: api.Range{From: at(0, 0), To: at(1, 2)}}
	deep := read
	for range 16 {
		deep = api.Tree{Kind: api.Neg, Kids: []api.Tree{deep}}
	}
	for _, x := range []api.Tree{
		{Kind: api.Neg}, {Kind: api.Op, Word: "+"}, {Kind: api.Call, Word: "SUM"}, {Kind: api.Read, At: span.At}, {Kind: api.Read, At: api.Range{From: at(16, 0), To: at(16, 0)}}, {Kind: api.Read, At: api.Range{From: at(0, -1), To: at(0, -1)}}, {Kind: api.Read, At: read.At, Num: 1}, {Kind: api.Read, At: read.At, Kids: []api.Tree{read}},
		{Kind: api.Num, Num: -1}, {Kind: api.Num, At: read.At}, {Kind: api.Bad, Num: 1}, {Kind: api.Bad, At: read.At}, {Kind: api.Bad, Word: lost}, {Kind: api.Bad, Kids: []api.Tree{{Kind: api.Bad}}}, {Kind: 7, At: read.At}, {Kind: -1}, {Kind: api.Neg, Kids: []api.Tree{span}}, {Kind: api.Neg, Kids: []api.Tree{read, read}},
		{Kind: api.Op, Word: "%", Kids: []api.Tree{read, read}}, {Kind: api.Op, Word: "+", Kids: []api.Tree{read, span}}, {Kind: api.Op, Word: "+", Kids: []api.Tree{read, read, read}}, call("IF", read, read), call("IF", read, span, read), call("COUNT", read), call("COUNT"), call("sum", read), call("", read), call("+", read, read), deep,
		{Kind: api.Span, At: api.Range{From: at(1, 2), To: at(0, 0)}}, {Kind: api.Span, At: api.Range{From: at(0, 0), To: at(16, 0)}}, {Kind: api.Span, At: span.At, Word: "SUM"},
	} {
		nothing(t, x)
		nothing(t, call("SUM", read, span, api.Tree{Kind: api.Bad}, x))
		nothing(t, call("SUM", x, read, span))
		nothing(t, call("IF", read, tree(t, "P64+1"), call("MAX", call("MIN", span, x))))
	}
	// a Span alone, or a Kid of what has none, may not be, though in a call it may
	nothing(t, span)
	nothing(t, call("IF", span, read, read))
	judge(t, call("SUM", read, span))
	judge(t, deep.Kids[0])
}

// P6.1: trees that are as deep as may be, wide ones, and those whose texts are longer than a source's may be
func TestGreat(t *testing.T) {
	shared := tree(t, "SUM(A1:B2,#REF)-P64")
	for range 10 {
		shared = api.Tree{Kind: api.Op, Word: "<", Kids: []api.Tree{shared, shared}}
	}
	for range 3 {
		shared = api.Tree{Kind: api.Neg, Kids: []api.Tree{shared}}
	}
	judge(t, shared)
	if !returns(t, shared, at(0, 0)) || returns(t, shared, at(1, 0)) || Size(shared) != 6<<10+2 || Bads(shared) != 1<<10 {
		t.Errorf("%d parts, %d Bads", Size(shared), Bads(shared))
	}
	wide := api.Tree{Kind: api.Call, Word: "COUNT"}
	for i := range 4000 {
		p := at(i%15, i%63)
		wide.Kids = append(wide.Kids, api.Tree{Kind: api.Span, At: api.Range{From: p, To: at(14, 62)}})
	}
	judge(t, wide)
	if !returns(t, wide, at(1, 1)) || returns(t, wide, at(2, 0)) || Size(wide) != 4001 || len(Reads(wide)) != 15*63 {
		t.Errorf("%d parts, %d places", Size(wide), len(Reads(wide)))
	}
	// moved, a tree's text may be longer than one that is parsed
	long := tree(t, "SUM(A1"+strings.Repeat(",A1", 64)+")")
	if y := moves(t, long, at(-1, 0)); len(syntax.Print(y)) <= 200 || Bads(y) != 65 || len(Reads(y)) != 0 {
		t.Errorf("%q", syntax.Print(y))
	}
}

// P1: trees that are much too deep, and trees that have themselves
func TestEnds(t *testing.T) {
	deep := tree(t, "A1")
	for range 1<<16 - 1 {
		deep = api.Tree{Kind: api.Neg, Kids: []api.Tree{deep}}
	}
	ring := []api.Tree{{}, tree(t, "A1")}
	ring[0] = api.Tree{Kind: api.Op, Word: "+", Kids: ring}
	for _, x := range []api.Tree{deep, ring[0]} {
		y, e := Shift(x, at(1, 1))
		if len(Reads(x)) != 0 || Uses(x, at(0, 0)) || Bads(x) != 0 || Size(x) != 0 || e != api.ErrArg || show(y) != show(api.Tree{}) {
			t.Errorf("something is told: %s %d", show(y), e)
		}
	}
}

// lists are the Kids of all parts of a tree.
func lists(x api.Tree) [][]api.Tree {
	l := [][]api.Tree{x.Kids}
	for _, kid := range x.Kids {
		l = append(l, lists(kid)...)
	}
	return l
}

// Rule 4: what is handed in is not written into, what lies behind a list's length is not looked at, what is answered is new memory
func TestMemory(t *testing.T) {
	room := []api.Tree{tree(t, "B2"), tree(t, "SUM(C3,D4)"), tree(t, "E5"), {Kind: 9}}
	x := api.Tree{Kind: api.Call, Word: "MAX", Kids: room[:2]}
	was := show(api.Tree{Kids: room})
	ask := func(by api.Place) api.Tree {
		judge(t, x)
		return moves(t, x, by)
	}
	y, z := ask(at(0, 0)), ask(at(1, 1))
	if show(api.Tree{Kids: room}) != was {
		t.Errorf("written into: %s, was %s", show(api.Tree{Kids: room}), was)
	}
	if s := syntax.Print(y) + " " + syntax.Print(z); s != "MAX(B2,SUM(C3,D4)) MAX(C3,SUM(D4,E5))" {
		t.Errorf("what lies behind was looked at: %s", s)
	}
	same := []api.Tree{tree(t, "A1")}
	twice := api.Tree{Kind: api.Neg, Kids: same}
	for _, x := range []api.Tree{x, {Kind: api.Op, Word: "+", Kids: []api.Tree{twice, twice}}} {
		y, _ := Shift(x, at(0, 0))
		for i := range lists(y) {
			fresh, _ := Shift(x, at(0, 0))
			before := show(fresh)
			l := lists(fresh)[i]
			_ = append(l, api.Tree{Kind: 8})
			if was := show(x); show(fresh) != before || was != show(y) {
				t.Errorf("list %d shares room: %s", i, show(fresh))
			}
			for j := range l {
				l[j] = api.Tree{Kind: 7}
			}
			if show(x) != show(y) || strings.Count(show(fresh), "{7 ") != len(l) {
				t.Errorf("list %d is shared: %s, %s", i, show(x), show(fresh))
			}
		}
	}
	a, b := Reads(x), Reads(x)
	a[0] = at(9, 9)
	_ = append(a[:1], at(8, 8))
	if !slices.Equal(b, Reads(x)) || b[0] != at(1, 1) {
		t.Errorf("%v", b)
	}
}

// Rules 4, 6: Kids without elements are as none, and what lies behind them stays
func TestEmptyKids(t *testing.T) {
	room := make([]api.Tree, 1)
	none := room[:0]
	x := api.Tree{Kind: api.Call, Word: "SUM", Kids: []api.Tree{{Kind: api.Read, At: api.Range{From: at(1, 1), To: at(1, 1)}, Kids: none}, {Kind: api.Span, At: api.Range{To: at(1, 0)}, Kids: none}, {Kind: api.Bad, Kids: none}, {Num: 5, Kids: none}}}
	judge(t, x)
	y := moves(t, x, at(0, -1))
	if s := syntax.Print(y); s != "SUM(B1,#REF,#REF,5)" || !returns(t, x, at(1, 1)) {
		t.Errorf("%q", s)
	}
	for i, kid := range y.Kids {
		if _ = append(kid.Kids, api.Tree{Kind: 9}); room[0].Kind != 0 {
			t.Fatalf("Kid %d has the room that was handed in", i)
		}
	}
}

// P2: what was asked ahead changes no answer
func TestSameAnswer(t *testing.T) {
	ask := func() string {
		x := tree(t, "SUM(B2:C2,B2)+A1*#REF")
		y, e := Shift(x, at(-1, 0))
		return fmt.Sprint(Reads(x), Uses(x, at(1, 1)), Uses(x, at(5, 5)), Bads(x), Size(x), show(y), e)
	}
	first := ask()
	for _, s := range some() {
		x := tree(t, s)
		judge(t, x)
		moves(t, x, at(3, -3))
		nothing(t, api.Tree{Kind: api.Neg, Kids: []api.Tree{x, x}})
	}
	if again := ask(); again != first {
		t.Errorf("%s, then %s", first, again)
	}
}
