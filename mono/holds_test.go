package mono

import (
	"math/rand/v2"
	"testing"

	"gridiron/api"
	"gridiron/eval"
	"gridiron/syntax"
)

// P8.2 is held here by what trees come to: by two sheets, whose cells went their ways from the first one to the second one.

// goes tells whether numbers go a way from one to another one.
func goes(w Way, from, to int) bool {
	switch w {
	case Still:
		return from == to
	case Up:
		return from <= to
	case Down:
		return from >= to
	}
	return true
}

// numbers are what cells are: all sorts, and such by which something runs over.
func numbers() []int { return []int{least, -5, -2, -1, 0, 1, 2, 7, most} }

// sheet is what stands at A1, and at B1, and what a tree comes to by that.
type sheet struct{ a, b, to int }

// come are the sheets by which a tree comes to a number.
func come(x api.Tree) []sheet {
	var l []sheet
	for _, a := range numbers() {
		for _, b := range numbers() {
			if v := eval.Of(x, api.Cell{At: spot("A1"), Value: api.Value{Num: a}}, api.Cell{At: spot("B1"), Value: api.Value{Num: b}}); v.Fault == api.Fine {
				l = append(l, sheet{a, b, v.Num})
			}
		}
	}
	return l
}

// stands holds a tree, for all ways of A1 and B1, and all numbers in them; how often it went up, went down, or stayed where a cell did not, is counted.
func stands(t *testing.T, x api.Tree, seen map[Way]int) {
	t.Helper()
	l := come(x)
	for _, a := range four() {
		for _, b := range four() {
			w := Of(x, Known{spot("A1"), a}, Known{spot("B1"), b})
			if w == Any {
				continue
			}
			count := 0
			for _, was := range l {
				for _, is := range l {
					if !goes(a, was.a, is.a) || !goes(b, was.b, is.b) {
						continue
					}
					if !goes(w, was.to, is.to) {
						t.Fatalf("%s by %d and %d is %d: it went from %v to %v", syntax.Print(x), a, b, w, was, is)
					}
					if was != is && (w == Still || was.to != is.to) {
						count++
					}
				}
			}
			seen[w] += count
		}
	}
}

// often holds that each way but ANY was seen to be gone.
func often(t *testing.T, seen map[Way]int, times int) {
	t.Helper()
	for _, w := range []Way{Still, Up, Down} {
		if seen[w] < times {
			t.Errorf("only %v", seen)
		}
	}
}

// P8.2: each mark and each word, of places, constants, and what only looks like one
func TestHolds(t *testing.T) {
	a, b := read(spot("A1")), read(spot("B1"))
	parts := []plain{a, b, read(spot("C1")), minus(b), number(0), number(1), number(3), minus(number(2)), minus(minus(number(2))), op("-", number(1), number(3)), count(span(spot("A1"), spot("B1")))}
	items := append(parts, span(spot("A1"), spot("A1")), span(spot("B1"), spot("C2")), span(spot("A1"), spot("C1")), span(spot("C1"), spot("D2")))
	seen := map[Way]int{}
	for _, x := range parts {
		stands(t, minus(x).tree, seen)
		for _, y := range parts {
			for _, mark := range marks() {
				stands(t, op(mark, x, y).tree, seen)
			}
			for _, z := range parts {
				stands(t, choice(x, y, z).tree, seen)
			}
		}
	}
	for _, word := range words() {
		for _, x := range items {
			stands(t, list(word, x).tree, seen)
			for _, y := range items {
				stands(t, list(word, x, y).tree, seen)
			}
		}
	}
	often(t, seen, 10000)
}

// P8.2: formulas such as are written
func TestHoldsOfTexts(t *testing.T) {
	seen := map[Way]int{}
	for _, s := range []string{
		"A1*3-B1/2", "MAX(0,A1-100)*-3/2", "IF(C1>4,A1,B1)", "IF(C1,A1,1/0)", "IF(COUNT(A1:C1)=2,A1-B1,B1)", "SUM(A1:C1)-MIN(A1,4)", "MIN(A1,5)+MAX(-B1,C1:D2)", "(A1>3)+(B1<2)-(3>=A1)", "-(A1<=B1)*7", "(A1>B1)*0", "-2*(A1-B1)/-3", "SUM(A1,A1,-B1)*--2", "A1/B1*0", "(A1=B1)+1", "A1*A1", "5-A1-B1", "5-(A1-B1)", "IF(A1,1,2)", "COUNT(A1:B1)*COUNT(A1:A1)", "A1+C1*C1", "#REF+A1", "IF(1,B1,#REF)", "MAX(A1:B1)-MIN(C1:C1)", "(A1+1)/2*2", "A1-A1",
	} {
		stands(t, tree(t, s), seen)
	}
	often(t, seen, 1000)
}

// on is a value that went a way from another one; a faulty one stays, or becomes anything.
func on(r *rand.Rand, w Way, v api.Value) api.Value {
	by := r.IntN(5)
	switch {
	case w == Up && v.Num <= most-by:
		v.Num += by
	case w == Down && v.Num >= least+by:
		v.Num -= by
	case w == Any:
		return []api.Value{{Num: r.IntN(9) - 4}, {Num: int(r.Uint64())}, {Fault: api.Fault(1 + r.IntN(4))}}[r.IntN(3)]
	}
	return v
}

// sheets are two at random, and what is known of how their cells go from one to the other one; what is not known stays.
func sheets(r *rand.Rand) (was, is []api.Cell, l []Known) {
	mostly := []Way{Still, Up, Up, Down}[r.IntN(4)]
	for i := range 9 {
		p := at(6+i%3, 30+i/3)
		w := []Way{mostly, mostly, mostly, Still, Up, Down, Any}[r.IntN(7)]
		if w != Still || r.IntN(2) == 0 {
			l = append(l, Known{p, w})
		}
		if r.IntN(4) == 0 {
			continue // empty in both
		}
		v := api.Value{Num: r.IntN(13) - 6}
		if r.IntN(8) == 0 {
			v.Num = int(r.Uint64()) >> r.IntN(64)
		}
		if (w == Still || w == Any) && r.IntN(9) == 0 {
			v = api.Value{Fault: api.Fault(1 + r.IntN(4))}
		}
		was = append(was, api.Cell{At: p, Value: v})
		is = append(is, api.Cell{At: p, Value: on(r, w, v)})
	}
	return was, is, l
}

// P8.2: trees, and two sheets, at random
func TestHoldsAtRandom(t *testing.T) {
	r := rand.New(rand.NewPCG(85, 86))
	seen := map[Way]int{}
	for range 30000 {
		x := grown(r, 2+r.IntN(6)).tree
		for range 4 {
			was, is, l := sheets(r)
			w, a, b := Of(x, l...), eval.Of(x, was...), eval.Of(x, is...)
			if a.Fault != api.Fine || b.Fault != api.Fine {
				continue
			}
			if !goes(w, a.Num, b.Num) {
				t.Fatalf("%s by %v is %d: from %v to %v it goes from %d to %d", syntax.Print(x), l, w, was, is, a.Num, b.Num)
			}
			if w == Still || a != b {
				seen[w]++
			}
		}
	}
	often(t, seen, 2000)
}
