package mono

import (
	"fmt"
	"math/rand/v2"
	"slices"
	"testing"

	"gridiron/api"
	"gridiron/syntax"
)

// spot is the place of a text such as B3.
func spot(s string) api.Place {
	var letter byte
	var line int
	fmt.Sscanf(s, "%c%d", &letter, &line)
	return at(int(letter-'A'), line-1)
}

// tree is a text's.
func tree(t *testing.T, s string) api.Tree {
	t.Helper()
	x, from, e := syntax.Parse(s)
	if e != api.OK {
		t.Fatalf("%q: %d %d", s, from, e)
	}
	return x
}

// four are the ways.
func four() []Way { return []Way{Still, Up, Down, Any} }

// strange are ways that are none of the four.
func strange() []Way { return []Way{-1, 4, 5, 7, -2, 255, 256, 1 << 32, 1<<32 + 1, most, least} }

// known is what the texts below are held by: a place of each way, one that is none's, and one that is known thrice.
func known() []Known {
	return []Known{{spot("A1"), Up}, {spot("B1"), Down}, {spot("C1"), Any}, {spot("E1"), Still}, {spot("F1"), 7}, {spot("G1"), Down}, {spot("G1"), Up}, {spot("A1"), Down}, {spot("G1"), Any}, {spot("E1"), Up}, {spot("P64"), Up}, {spot("A3"), Up}}
}

// wrong are places that may not be.
func wrong() []api.Place {
	return []api.Place{at(-1, 0), at(0, -1), at(-1, -1), at(16, 0), at(0, 64), at(16, 64), at(-16, 1), at(17, -1), at(32, -2), at(256, 0), at(0, 256), at(1<<32, 0), at(0, 1<<32), at(most, least), at(least, most)}
}

// going holds the way of a text by what is known.
func going(t *testing.T, s string, want Way, l ...Known) {
	t.Helper()
	if w := Of(tree(t, s), l...); w != want {
		t.Errorf("%s by %v: %d, want %d", s, l, w, want)
	}
}

// judge holds a part's way by what is known against what may become of it.
func judge(t *testing.T, x plain, l []Known) {
	t.Helper()
	if w, want := Of(x.tree, l...), x.goes(l).way(); w != want {
		t.Fatalf("%s by %v: %d, want %d", syntax.Print(x.tree), l, w, want)
	}
}

// joined are ways joined, by what may become of one of them.
func joined(l ...Way) Way {
	var d drift
	for _, w := range l {
		d = d.or(drifting(w))
	}
	return d.way()
}

// P8.1: no ways joined, one, each with each other one and with itself, three, many; and those that are none of the four
func TestJoin(t *testing.T) {
	if w := Join(); w != Still {
		t.Errorf("none: %d", w)
	}
	if w := Join([]Way{}...); w != Still {
		t.Errorf("none: %d", w)
	}
	for _, y := range []struct{ a, b, want Way }{
		{Still, Still, Still}, {Still, Up, Up}, {Still, Down, Down}, {Still, Any, Any}, {Up, Still, Up}, {Up, Up, Up}, {Up, Down, Any}, {Up, Any, Any}, {Down, Still, Down}, {Down, Up, Any}, {Down, Down, Down}, {Down, Any, Any}, {Any, Still, Any}, {Any, Up, Any}, {Any, Down, Any}, {Any, Any, Any},
	} {
		if w := Join(y.a, y.b); w != y.want {
			t.Errorf("%d and %d: %d, want %d", y.a, y.b, w, y.want)
		}
	}
	all := append(four(), strange()...)
	for _, a := range all {
		if w := Join(a); w != joined(a) {
			t.Errorf("%d: %d", a, w)
		}
		for _, b := range all {
			if w := Join(a, b); w != joined(a, b) {
				t.Errorf("%d and %d: %d", a, b, w)
			}
			for _, c := range all {
				if w := Join(a, b, c); w != joined(a, b, c) {
					t.Errorf("%d, %d and %d: %d", a, b, c, w)
				}
			}
		}
	}
	for _, w := range all {
		for i := range 5 {
			l := slices.Repeat([]Way{Still}, 1000)
			l[i*249] = w
			if is := Join(l...); is != joined(w) {
				t.Errorf("%d among others: %d", w, is)
			}
			if is := Join(append(l, Up)...); is != joined(w, Up) {
				t.Errorf("%d among others, and UP: %d", w, is)
			}
		}
	}
}

// P8.1: each way flipped, and those that are none of the four
func TestFlip(t *testing.T) {
	for w, want := range map[Way]Way{Still: Still, Up: Down, Down: Up, Any: Any} {
		if is := Flip(w); is != want {
			t.Errorf("%d: %d, want %d", w, is, want)
		}
	}
	for _, w := range strange() {
		if is := Flip(w); is != Any {
			t.Errorf("%d: %d", w, is)
		}
	}
}

// P8.1: the four ways' numbers
func TestNumbers(t *testing.T) {
	if Still != 0 || Up != 1 || Down != 2 || Any != 3 {
		t.Errorf("%d", four())
	}
}

// P8.1: the way of each kind, by what is known above
func TestKinds(t *testing.T) {
	for s, want := range map[string]Way{
		"0": Still, "7": Still, "9223372036854775807": Still, "#REF": Still, "Q1": Still, "A1": Up, "B1": Down, "C1": Any, "D1": Still, "E1": Still, "F1": Any, "G1": Down, "P64": Up, "P63": Still, "A2": Still, "((A1))": Up,
		"-A1": Down, "-B1": Up, "-C1": Any, "-D1": Still, "-F1": Any, "--A1": Up, "---A1": Down, "-7": Still, "-#REF": Still,
		"A1+A1": Up, "A1+B1": Any, "B1+A1": Any, "B1+B1": Down, "A1+D1": Up, "D1+A1": Up, "D1+B1": Down, "A1+C1": Any, "A1+F1": Any, "1+2": Still, "A1+#REF": Up, "#REF+1": Still, "A1+1+B1": Any, "D1+E1": Still,
		"A1-A1": Any, "A1-B1": Up, "B1-A1": Down, "A1-D1": Up, "D1-A1": Down, "D1-B1": Up, "B1-5": Down, "5-B1": Up, "A1-C1": Any, "C1-D1": Any, "D1-C1": Any, "D1-E1": Still, "A1-B1-B1": Up, "A1-(B1-A1)": Up, "A1-(A1-B1)": Any,
		"A1*3": Up, "A1*-3": Down, "3*A1": Up, "-3*A1": Down, "B1*3": Down, "B1*-3": Up, "-3*B1": Up, "C1*3": Any, "C1*-3": Any, "D1*3": Still, "D1*-3": Still, "3*-4": Still, "-3*-4": Still, "-3*4": Still,
		"A1*0": Up, "B1*0": Down, "C1*0": Any, "D1*0": Still, "0*A1": Up, "0*B1": Down, "0*C1": Any, "A1*-0": Up, "-0*A1": Up, "B1*-0": Down, "0*0": Still, "A1*--0": Up,
		"A1*--3": Up, "A1*---3": Down, "--3*A1": Up, "---3*A1": Down, "A1*-9223372036854775807": Down, "A1*--9223372036854775807": Up,
		"A1*D1": Any, "D1*A1": Any, "A1*A1": Any, "A1*B1": Any, "D1*E1": Still, "D1*D1": Still, "A1*(1+1)": Any, "(1+1)*A1": Any, "A1*-(1+1)": Any, "D1*(1+1)": Still, "A1*SUM(2)": Any, "A1*-D1": Any, "A1*-#REF": Any, "#REF*A1": Any, "#REF*D1": Still, "A1*2*3": Up, "A1*(2*3)": Any, "2*3*A1": Any, "2*(3*A1)": Up, "A1*IF(1,2,3)": Any, "A1*COUNT(A1:A1)": Any,
		"A1/2": Up, "A1/-2": Down, "B1/2": Down, "B1/-2": Up, "C1/2": Any, "D1/2": Still, "D1/-2": Still, "A1/--2": Up, "A1/---2": Down, "A1/9223372036854775807": Up, "A1/1": Up, "A1/-1": Down, "(A1+1)/2": Up,
		"A1/0": Any, "B1/0": Any, "C1/0": Any, "D1/0": Still, "1/0": Still, "A1/-0": Any, "A1/--0": Any, "D1/-0": Still, "2/A1": Any, "-2/B1": Any, "2/D1": Still, "0/A1": Any, "D1/E1": Still, "A1/D1": Any, "D1/A1": Any, "A1/A1": Any, "A1/(1+1)": Any, "A1/#REF": Any, "D1/#REF": Still, "6/3": Still,
	} {
		going(t, s, want, known()...)
	}
}

// P8.1: the way of each comparison, by what is known above
func TestComparisons(t *testing.T) {
	for _, mark := range []string{">", ">="} {
		for s, want := range map[string]Way{"A1?5": Up, "5?A1": Down, "B1?5": Down, "5?B1": Up, "C1?5": Any, "5?C1": Any, "D1?5": Still, "5?D1": Still, "A1?A1": Any, "A1?B1": Up, "B1?A1": Down, "B1?B1": Any, "A1?D1": Up, "D1?A1": Down, "A1?C1": Any, "B1?C1": Any, "1?2": Still, "F1?1": Any, "1?F1": Any, "#REF?A1": Down, "A1?-B1": Any, "A1?-A1": Up} {
			going(t, marked(s, mark), want, known()...)
			going(t, "-("+marked(s, mark)+")", Flip(want), known()...)
		}
	}
	for _, mark := range []string{"<", "<="} {
		for s, want := range map[string]Way{"A1?5": Down, "5?A1": Up, "B1?5": Up, "5?B1": Down, "C1?5": Any, "5?C1": Any, "D1?5": Still, "5?D1": Still, "A1?A1": Any, "A1?B1": Down, "B1?A1": Up, "B1?B1": Any, "A1?D1": Down, "D1?A1": Up, "A1?C1": Any, "B1?C1": Any, "1?2": Still, "F1?1": Any, "1?F1": Any, "#REF?A1": Up, "A1?-B1": Any, "A1?-A1": Down} {
			going(t, marked(s, mark), want, known()...)
			going(t, "-("+marked(s, mark)+")", Flip(want), known()...)
		}
	}
	for _, mark := range []string{"=", "<>"} {
		for s, want := range map[string]Way{"A1?5": Any, "5?A1": Any, "B1?5": Any, "5?B1": Any, "C1?5": Any, "D1?5": Still, "5?D1": Still, "D1?E1": Still, "A1?A1": Any, "A1?B1": Any, "A1?D1": Any, "D1?B1": Any, "1?2": Still, "F1?1": Any, "#REF?1": Still, "0?A1": Any} {
			going(t, marked(s, mark), want, known()...)
		}
	}
}

// marked is a text with a mark for its ?.
func marked(s, mark string) string {
	i := slices.Index([]byte(s), '?')
	return s[:i] + mark + s[i+1:]
}

// P8.1: the way of each word, by what is known above
func TestWords(t *testing.T) {
	for s, want := range map[string]Way{
		"IF(D1,A1,5)": Up, "IF(D1,5,A1)": Up, "IF(D1,A1,A1)": Up, "IF(D1,B1,5)": Down, "IF(D1,B1,B1)": Down, "IF(D1,A1,B1)": Any, "IF(D1,B1,A1)": Any, "IF(D1,C1,5)": Any, "IF(D1,5,C1)": Any, "IF(D1,D1,E1)": Still, "IF(1,A1,B1)": Any, "IF(0,A1,B1)": Any, "IF(1,A1,2)": Up, "IF(#REF,A1,2)": Up, "IF(E1=3,B1,#REF)": Down, "IF(COUNT(A1:C1),A1,2)": Up, "IF(D1,2,3)": Still,
		"IF(A1,D1,5)": Any, "IF(A1,1,0)": Any, "IF(A1>4,1,0)": Any, "IF(B1,1,1)": Any, "IF(C1,1,1)": Any, "IF(F1,1,1)": Any, "IF(A1,A1,A1)": Any, "IF(A1*0,2,2)": Any, "IF(A1+B1,1,1)": Any, "IF(IF(A1,1,2),3,4)": Any, "IF(IF(D1,1,2),A1,4)": Up,
		"SUM(A1)": Up, "SUM(B1)": Down, "SUM(C1)": Any, "SUM(D1)": Still, "SUM(1)": Still, "SUM(A1:A1)": Up, "SUM(B1:B1)": Down, "SUM(C1:C1)": Any, "SUM(D1:D1)": Still, "SUM(F1:F1)": Any, "SUM(G1:G1)": Down, "SUM(A1:A9)": Up, "SUM(A1:A9,A1)": Up, "SUM(B1:B9,1)": Down, "SUM(A1:B1)": Any, "SUM(A1,B1)": Any, "SUM(B1,A1)": Any, "SUM(A1:A9,B1:B9)": Any, "SUM(D1:E9)": Still, "SUM(A2:P63)": Up, "SUM(A4:P63)": Still, "SUM(A4:P64)": Up, "SUM(A1:P64)": Any, "SUM(D1:E1,A3,#REF)": Up, "SUM(A1,-B1)": Up, "SUM(-A1,A1:A1)": Any, "SUM(-A1,B1:B1)": Down,
		"MIN(A1,5)": Up, "MIN(B1,5)": Down, "MIN(5,B1,D1)": Down, "MIN(A1:D1)": Any, "MIN(A1:A9)": Up, "MIN(D1:E1)": Still, "MIN(A1,B1)": Any, "MIN(C1,1)": Any, "MIN(#REF)": Still, "MIN(G1:G2)": Down,
		"MAX(A1,5)": Up, "MAX(B1,5)": Down, "MAX(5,B1,D1)": Down, "MAX(A1:D1)": Any, "MAX(A1:A9)": Up, "MAX(D1:E1)": Still, "MAX(A1,B1)": Any, "MAX(C1,1)": Any, "MAX(#REF)": Still, "MAX(G1:G2)": Down,
		"COUNT(A1:A1)": Still, "COUNT(A1:C1)": Still, "COUNT(C1:C1)": Still, "COUNT(F1:F1)": Still, "COUNT(A1:P64)": Still, "COUNT(A1:A9,B1:B9)": Still, "COUNT(#REF)": Still, "COUNT(#REF,A1:C1)": Still, "-COUNT(A1:C1)": Still, "COUNT(A1:C1)*A1": Any, "COUNT(A1:C1)+A1": Up,
		"SUM(MAX(A1,D1),MIN(A3,-B1),COUNT(A1:C1))": Up, "MAX(A1:A9)-MIN(B1:B9)": Up, "IF(D1>3,SUM(A1:A9),-B1*2)": Up, "IF(D1>3,SUM(A1:A9),B1*2)": Any, "MAX(0,A1-100)*-3/2": Down,
	} {
		going(t, s, want, known()...)
	}
}

// P8.1: nothing known
func TestNothingKnown(t *testing.T) {
	for _, s := range []string{"0", "A1", "P64", "#REF", "-A1", "A1*B1", "A1/0", "1/A1", "A1=B1", "A1<B1", "IF(A1,B1,C1)", "SUM(A1:P64)", "MIN(A1:P64)", "MAX(A1:P64,-4)", "COUNT(A1:P64)"} {
		going(t, s, Still)
		going(t, s, Still, []Known{}...)
		going(t, s, Still, known()[:0]...)
	}
	if w := Of(api.Tree{Kind: api.Neg}); w != Any {
		t.Errorf("what may not be: %d", w)
	}
}

// P8.1: of several at one place the first one counts, be it STILL, or none of the four
func TestFirst(t *testing.T) {
	all := append(four(), 7, -1)
	for _, a := range all {
		for _, b := range all {
			for _, c := range all {
				l := []Known{{spot("B2"), Up}, {spot("A1"), a}, {spot("A1"), b}, {spot("B2"), Any}, {spot("A1"), c}, {spot("B2"), a}}
				for _, x := range []plain{read(spot("A1")), list("SUM", span(spot("A1"), spot("B2"))), list("MIN", span(spot("A1"), spot("B1"))), op("-", read(spot("B2")), read(spot("A1"))), choice(read(spot("A1")), number(3), read(spot("B2")))} {
					judge(t, x, l)
				}
				going(t, "A1", joined(a), l...)
				going(t, "B2", Up, l...)
				going(t, "SUM(A1:B2)", joined(a, Up), l...)
			}
		}
	}
}

// singles are parts of all sorts that have one way: constants, others of which nothing may become, and places of all ways.
func singles() []plain {
	l := []plain{number(0), number(1), number(2), number(most), bad(), minus(bad()), op("+", number(1), number(1)), minus(op("-", number(1), number(2))), list("SUM", number(3)), choice(number(1), number(2), number(3)), count(span(spot("A1"), spot("C1"))), op("/", number(1), number(0))}
	for _, x := range []int{0, 1, 3, most} {
		l = append(l, minus(number(x)), minus(minus(number(x))), minus(minus(minus(number(x)))))
	}
	for i := range 7 {
		l = append(l, read(at(i, 0)), minus(read(at(i, 0))))
	}
	return l
}

// spans are ranges: of one place, and of many; with none that is known, with one, with several.
func spans() []plain {
	var l []plain
	for _, ends := range []string{"A1A1", "B1B1", "C1C1", "D1D1", "E1E1", "F1F1", "G1G1", "A1A9", "B1B9", "A1B1", "D1E9", "A2C9", "A1P64", "A4P63", "O63P64"} {
		to := len(ends) / 2
		l = append(l, span(spot(ends[:to]), spot(ends[to:])))
	}
	return l
}

// P8.1: each mark, each word, of all sorts of parts
func TestAllParts(t *testing.T) {
	l := known()
	for _, a := range singles() {
		judge(t, a, l)
		judge(t, minus(a), l)
		for _, b := range singles() {
			for _, mark := range marks() {
				judge(t, op(mark, a, b), l)
			}
			for _, c := range singles() {
				judge(t, choice(a, b, c), l)
			}
		}
	}
	items := append(spans(), singles()...)
	for _, word := range words() {
		for _, a := range items {
			judge(t, list(word, a), l)
			for _, b := range items {
				judge(t, list(word, a, b), l)
				for _, c := range append(spans()[:4], number(2), bad(), read(spot("G1"))) {
					judge(t, list(word, a, b, c), l)
				}
			}
		}
	}
	corners := append(spans(), bad())
	for _, a := range corners {
		judge(t, count(a), l)
		for _, b := range corners {
			judge(t, count(a, b), l)
		}
	}
}

// P8.1: a place's way counts for what reads it, and for nothing else; what is known of what is no place for nothing
func TestPlaces(t *testing.T) {
	corner := span(spot("B2"), spot("C3"))
	x := op("+", list("SUM", corner), read(spot("E5")))
	for i := range 1024 {
		p := at(i%16, i/16)
		want := p == spot("E5") || p.Col >= 1 && p.Col <= 2 && p.Row >= 1 && p.Row <= 2
		for _, w := range append(four(), 9) {
			is := Of(x.tree, Known{p, w})
			if want && is != joined(w) || !want && is != Still {
				t.Errorf("%d at %v: %d", w, p, is)
			}
		}
		if w := Of(read(p).tree, Known{p, Down}); w != Down {
			t.Errorf("%v: %d", p, w)
		}
	}
	for _, p := range wrong() {
		going(t, "SUM(A1:P64)+A1+P64-B1", Still, Known{p, Up}, Known{p, 7})
		going(t, "A1-B1", Up, Known{p, Down}, Known{spot("A1"), Up}, Known{p, Up})
	}
}

// near is a place at random, near the others.
func near(r *rand.Rand) api.Place { return at(6+r.IntN(3), 30+r.IntN(3)) }

// spanned is a span at random.
func spanned(r *rand.Rand) plain {
	a, b := near(r), near(r)
	return span(at(min(a.Col, b.Col), min(a.Row, b.Row)), at(max(a.Col, b.Col), max(a.Row, b.Row)))
}

// leaf is a part at random that is a constant, or without Kids.
func leaf(r *rand.Rand) plain {
	switch r.IntN(12) {
	case 0:
		return bad()
	case 1, 2, 3:
		return number(r.IntN(4))
	case 4, 5:
		return minus(number(r.IntN(4)))
	}
	return read(near(r))
}

// grown is a part at random, with others below it.
func grown(r *rand.Rand, deep int) plain {
	if deep <= 2 {
		return leaf(r)
	}
	kid := func() plain { return grown(r, deep-1-r.IntN(deep-1)) }
	item := func() plain {
		if r.IntN(2) == 0 {
			return kid()
		}
		return spanned(r)
	}
	switch r.IntN(10) {
	case 0:
		return minus(kid())
	case 1, 2, 3, 4:
		return op(marks()[r.IntN(10)], kid(), kid())
	case 5:
		return op(marks()[2+r.IntN(2)], kid(), leaf(r))
	case 6:
		return choice(kid(), kid(), kid())
	case 7:
		return count(append([]plain{spanned(r)}, []plain{spanned(r), bad()}[r.IntN(2):]...)...)
	}
	items := []plain{item()}
	for range r.IntN(3) {
		items = append(items, item())
	}
	return list(words()[r.IntN(3)], items...)
}

// lately are ways at random: of all sorts, or mostly STILL and one other one.
func lately(r *rand.Rand) []Known {
	var l []Known
	mostly := []Way{Still, Up, Down, Still}[r.IntN(4)]
	for range r.IntN(14) {
		w := mostly
		switch r.IntN(12) {
		case 0:
			w = Way(r.IntN(7) - 1)
		case 1, 2, 3:
			w = Still
		}
		l = append(l, Known{near(r), w})
	}
	return l
}

// P8.1: trees, and what is known, at random
func TestRandom(t *testing.T) {
	r := rand.New(rand.NewPCG(81, 82))
	seen := map[Way]int{}
	for range 20000 {
		x := grown(r, 2+r.IntN(7))
		if !syntax.Right(x.tree) {
			t.Fatalf("%v may not be", x.tree)
		}
		for range 3 {
			l := lately(r)
			judge(t, x, l)
			seen[x.goes(l).way()]++
		}
	}
	for _, w := range four() {
		if seen[w] < 1000 {
			t.Errorf("only %v", seen)
		}
	}
}

// refused holds that a tree that may not be is ANY, whatever is known.
func refused(t *testing.T, x api.Tree) {
	t.Helper()
	for _, l := range [][]Known{nil, known(), {{spot("B3"), Still}}, {{spot("B3"), Up}, {spot("A1"), Up}}} {
		if w := Of(x, l...); w != Any {
			t.Errorf("%v by %v: %d", x, l, w)
		}
	}
}

// P8.1: trees that may not be, alone, and as a part that else might, even one that else had no way
func TestMayNot(t *testing.T) {
	read, place := tree(t, "B3"), api.Range{From: spot("B3"), To: spot("B3")}
	kids := func(kind api.Kind, word string, l ...api.Tree) api.Tree {
		return api.Tree{Kind: kind, Word: word, Kids: l}
	}
	span := api.Tree{Kind: api.Span, At: api.Range{From: spot("A1"), To: spot("B3")}}
	deep := read
	for range 16 {
		deep = kids(api.Neg, "", deep)
	}
	for _, x := range []api.Tree{
		{Kind: -1}, {Kind: 7}, {Kind: 255}, {Kind: most}, {Kind: least}, {Num: -1}, {Num: least}, {At: place}, {Word: "+"}, {Kids: []api.Tree{read}}, {Kind: api.Bad, Num: 1}, {Kind: api.Bad, At: place}, {Kind: api.Bad, Word: "#REF"}, {Kind: api.Bad, Kids: []api.Tree{read}},
		{Kind: api.Read, At: span.At}, {Kind: api.Read, At: place, Num: 1}, {Kind: api.Read, At: place, Word: "B3"}, {Kind: api.Read, At: place, Kids: []api.Tree{read}}, {Kind: api.Read, At: api.Range{From: at(16, 0), To: at(16, 0)}}, {Kind: api.Read, At: api.Range{From: at(0, -1), To: at(0, -1)}}, {Kind: api.Read, At: api.Range{From: at(least, most), To: at(least, most)}},
		kids(api.Neg, ""), kids(api.Neg, "", read, read), kids(api.Neg, "-", read), kids(api.Neg, "", span), {Kind: api.Neg, Num: 1, Kids: []api.Tree{read}}, {Kind: api.Neg, At: place, Kids: []api.Tree{read}}, kids(api.Neg, "", api.Tree{Num: -3}),
		kids(api.Op, "+"), kids(api.Op, "+", read), kids(api.Op, "+", read, read, read), kids(api.Op, "", read, read), kids(api.Op, "%", read, read), kids(api.Op, "SUM", read, read), kids(api.Op, "+", read, span), kids(api.Op, "+", span, read), kids(api.Op, "*", read, api.Tree{Num: -3}), {Kind: api.Op, Word: "+", Num: 1, Kids: []api.Tree{read, read}},
		kids(api.Call, "IF"), kids(api.Call, "IF", read, read), kids(api.Call, "IF", read, read, read, read), kids(api.Call, "IF", span, read, read), kids(api.Call, "IF", read, span, read), kids(api.Call, "IF", read, read, span), kids(api.Call, "SUM"), kids(api.Call, "MIN"), kids(api.Call, "MAX"), kids(api.Call, "COUNT"), kids(api.Call, "COUNT", read), kids(api.Call, "COUNT", span, api.Tree{Num: 1}),
		kids(api.Call, "", read), kids(api.Call, "sum", read), kids(api.Call, "AVG", read), kids(api.Call, "+", read, read), kids(api.Call, "SUM ", read), {Kind: api.Call, Word: "SUM", Num: 1, Kids: []api.Tree{read}}, {Kind: api.Call, Word: "SUM", At: place, Kids: []api.Tree{read}},
		{Kind: api.Span, At: api.Range{From: spot("B3"), To: spot("A1")}}, {Kind: api.Span, At: api.Range{From: at(0, 0), To: at(16, 0)}}, {Kind: api.Span, At: api.Range{From: at(-1, 0), To: at(0, 0)}}, {Kind: api.Span, At: span.At, Num: 1}, {Kind: api.Span, At: span.At, Word: "SUM"}, {Kind: api.Span, At: span.At, Kids: []api.Tree{read}}, deep,
	} {
		refused(t, x)
		refused(t, kids(api.Neg, "", x))
		refused(t, kids(api.Op, "+", read, x))
		refused(t, kids(api.Op, "*", x, read))
		refused(t, kids(api.Op, "/", read, x))
		refused(t, kids(api.Call, "SUM", read, span, x))
		refused(t, kids(api.Call, "MAX", x, read))
		refused(t, kids(api.Call, "COUNT", span, x))
		refused(t, kids(api.Call, "IF", tree(t, "1"), read, x))
		refused(t, kids(api.Call, "IF", x, read, read))
	}
	// a Span alone, and where none may stand, though in a call one may; what is a Kid less deep may be
	refused(t, span)
	refused(t, kids(api.Neg, "", span))
	going(t, "SUM(B3,A1:B3)", Up, Known{spot("B3"), Up})
	if w := Of(deep.Kids[0], Known{spot("B3"), Up}); w != Down {
		t.Errorf("what may be: %d", w)
	}
}

// P8.1: trees that are as deep as may be, wide ones, and much that is known
func TestGreat(t *testing.T) {
	x := tree(t, "A1")
	for range 15 {
		x = api.Tree{Kind: api.Neg, Kids: []api.Tree{x}}
	}
	if w := Of(x, known()...); w != Down || syntax.Deep(x) != 16 {
		t.Errorf("%d, %d deep", w, syntax.Deep(x))
	}
	minus := api.Tree{Num: 3}
	for range 13 {
		minus = api.Tree{Kind: api.Neg, Kids: []api.Tree{minus}}
	}
	for _, mark := range []string{"*", "/"} {
		if w := Of(api.Tree{Kind: api.Op, Word: mark, Kids: []api.Tree{tree(t, "A1"), minus}}, known()...); w != Down {
			t.Errorf("%s: %d", mark, w)
		}
	}
	wide := api.Tree{Kind: api.Call, Word: "SUM"}
	whole := api.Tree{Kind: api.Span, At: api.Range{From: at(0, 0), To: at(15, 63)}}
	for i := range 1000 {
		wide.Kids = append(wide.Kids, whole, api.Tree{Num: i})
	}
	var l []Known
	for i := range 200000 {
		w := Down
		if i >= 1024 {
			w = Any
		}
		l = append(l, Known{at(i%16, i/16%64), w})
	}
	if w := Of(wide, l...); w != Down {
		t.Errorf("wide: %d", w)
	}
	l[1000].Way = Up
	if w := Of(wide, l...); w != Any {
		t.Errorf("wide: %d", w)
	}
}

// P1: trees that are much too deep, and trees that have themselves
func TestEnds(t *testing.T) {
	deep := tree(t, "B3")
	for range 1<<16 - 1 {
		deep = api.Tree{Kind: api.Neg, Kids: []api.Tree{deep}}
	}
	ring := []api.Tree{tree(t, "B3"), {}}
	ring[1] = api.Tree{Kind: api.Op, Word: "*", Kids: ring}
	refused(t, deep)
	refused(t, ring[1])
	refused(t, api.Tree{Kind: api.Call, Word: "SUM", Kids: ring})
	refused(t, api.Tree{Kind: api.Call, Word: "COUNT", Kids: ring})
}

// Rule 4: what is handed in is not written into, not kept, and what lies behind a list's length is not looked at
func TestMemory(t *testing.T) {
	room := []api.Tree{tree(t, "A1"), tree(t, "A3"), tree(t, "B1")}
	l := append(known()[:1:1], Known{spot("A3"), Up}, Known{spot("A3"), Any}, Known{spot("A1"), Down})
	marks := []Way{Up, 7, Up, Down, Any}
	was := fmt.Sprint(room, l, marks)
	for _, word := range words() {
		x := api.Tree{Kind: api.Call, Word: word, Kids: room[:2]}
		for some, want := range []Way{Still, Up, Up, Up, Up} {
			if w := Of(x, l[:some]...); w != want {
				t.Errorf("%s by %d: %d", word, some, w)
			}
		}
	}
	if w, none := Join(marks[:1]...), Join(marks[:0]...); w != Up || none != Still || Join(marks...) != Any {
		t.Errorf("%d, %d", w, none)
	}
	if is := fmt.Sprint(room, l, marks); is != was {
		t.Errorf("%s, was %s", is, was)
	}
	x := tree(t, "A1")
	Of(x, l...)
	l[0].Way = Down
	if w := Of(x, l...); w != Down || Of(x, known()...) != Up || Of(x) != Still {
		t.Errorf("%d", w)
	}
}

// Rule 6: Kids without elements are as none
func TestEmptyKids(t *testing.T) {
	none := []api.Tree{}
	corner := api.Tree{Kind: api.Span, At: api.Range{From: spot("A1"), To: spot("A9")}, Kids: none}
	place := api.Tree{Kind: api.Read, At: api.Range{From: spot("B1"), To: spot("B1")}, Kids: none}
	three := api.Tree{Kind: api.Neg, Kids: []api.Tree{{Num: 3, Kids: none}}}
	for _, y := range []struct {
		x    api.Tree
		want Way
	}{
		{api.Tree{Num: 7, Kids: none}, Still}, {place, Down}, {api.Tree{Kind: api.Bad, Kids: none}, Still}, {api.Tree{Kind: api.Call, Word: "SUM", Kids: []api.Tree{corner}}, Up}, {api.Tree{Kind: api.Call, Word: "COUNT", Kids: []api.Tree{corner}}, Still}, {api.Tree{Kind: api.Op, Word: "*", Kids: []api.Tree{place, three}}, Up},
	} {
		if w := Of(y.x, known()...); w != y.want {
			t.Errorf("%v: %d, want %d", y.x, w, y.want)
		}
	}
}

// P2: what was asked ahead changes no answer
func TestSameAnswer(t *testing.T) {
	ask := func() string {
		var l []Way
		for _, s := range []string{"A1", "B1", "-C1", "A1*-3", "B1/A1", "IF(D1,A1,-B1)", "SUM(A1:A9)", "MIN(A1:B3)", "COUNT(A1:C3)", "A1<B1"} {
			l = append(l, Of(tree(t, s), known()...))
		}
		return fmt.Sprint(l, Join(Up, Still), Flip(Up))
	}
	first := ask()
	r := rand.New(rand.NewPCG(83, 84))
	for range 500 {
		Of(grown(r, 6).tree, Known{spot("A1"), Way(r.IntN(5))}, Known{spot("B1"), Any})
		Join(Way(r.IntN(5)), Down)
	}
	Of(api.Tree{Kind: api.Neg}, Known{spot("C1"), Up})
	if again := ask(); again != first || first != ask() {
		t.Errorf("%s, then %s", first, again)
	}
}
