package eval

import (
	"fmt"
	"math/rand/v2"
	"slices"
	"testing"

	"gridiron/api"
	"gridiron/shape"
	"gridiron/syntax"
)

// told is the place of a text such as B3.
func told(s string) api.Place {
	var letter byte
	var line int
	fmt.Sscanf(s, "%c%d", &letter, &line)
	return at(int(letter-'A'), line-1)
}

// tree is a text's.
func tree(t *testing.T, s string) api.Tree {
	t.Helper()
	x, from, e := syntax.Parse(s)
	if e != api.OK {
		t.Fatalf("%q: %d %d", s, from, e)
	}
	return x
}

// sheet is cells of all sorts, in row 1: a number, none, others, faults of all kinds, the greatest and the least one, 0, and values that may not be.
func sheet() []api.Cell {
	return []api.Cell{
		{At: told("A1"), Value: n(5)}, {At: told("C1"), Value: n(-7)}, {At: told("D1"), Value: f(api.Cycle)}, {At: told("E1"), Value: f(api.Div)}, {At: told("F1"), Value: n(most)}, {At: told("G1"), Value: n(least)}, {At: told("H1"), Value: n(0)},
		{At: told("I1"), Value: api.Value{Num: 3, Fault: api.Over}}, {At: told("J1"), Value: f(9)}, {At: told("K1"), Value: api.Value{Num: -4, Fault: -1}}, {At: told("L1"), Value: f(api.Ref)}, {At: told("M1"), Value: f(api.Over)}, {At: told("A3"), Value: n(3)}, {At: told("P64"), Value: n(64)},
	}
}

// coming holds what a text comes to by cells.
func coming(t *testing.T, s string, want api.Value, l ...api.Cell) {
	t.Helper()
	if v := Of(tree(t, s), l...); v != want {
		t.Errorf("%s by %v: %v, want %v", s, l, v, want)
	}
}

// judge holds what a part comes to by cells against what it is to come to; and P7.2 of it, by other cells at all places that it doesn't read.
func judge(t *testing.T, x plain, l []api.Cell) {
	t.Helper()
	want := x.is(l)
	if v := Of(x.tree, l...); v != want {
		t.Fatalf("%s by %v: %v, want %v", syntax.Print(x.tree), l, v, want)
	}
	var read, others []api.Cell
	fine := shape.Bads(x.tree) == 0
	for i, c := range l {
		if !shape.Uses(x.tree, c.At) {
			others = append(others, api.Cell{At: c.At, Value: n(c.Value.Num - i)})
			continue
		}
		read = append(read, c)
		fine = fine && c.Value.Fault == api.Fine
	}
	// those at places that are none among them, which could be taken for others
	for i, p := range wrong() {
		others = append(others, api.Cell{At: p, Value: []api.Value{n(7), f(api.Ref), {Num: 1, Fault: 9}}[i%3]})
	}
	for _, given := range [][]api.Cell{read, slices.Concat(others, read), slices.Concat(read, others)} {
		if v := Of(x.tree, given...); v != want {
			t.Fatalf("%s by %v: %v, want %v, as by %v", syntax.Print(x.tree), given, v, want, l)
		}
	}
	if fine && want.Fault != api.Fine && want.Fault != api.Over && want.Fault != api.Div {
		t.Fatalf("%s by %v: %v", syntax.Print(x.tree), l, want)
	}
}

// wrong are places that may not be.
func wrong() []api.Place {
	return []api.Place{at(-1, 0), at(0, -1), at(-1, -1), at(16, 0), at(0, 64), at(16, 64), at(-16, 1), at(17, -1), at(32, -2), at(256, 0), at(0, 256), at(1<<32, 0), at(0, 1<<32), at(most, least), at(least, most)}
}

// P7.1: what each kind comes to, by the cells of the sheet above
func TestKinds(t *testing.T) {
	for s, want := range map[string]api.Value{
		"0": n(0), "7": n(7), "9223372036854775807": n(most), "A1": n(5), "((A1))": n(5), "B1": n(0), "C1": n(-7), "D1": f(api.Cycle), "E1": f(api.Div), "F1": n(most), "G1": n(least), "H1": n(0), "I1": f(api.Over), "J1": f(9), "K1": f(-1), "L1": f(api.Ref), "M1": f(api.Over), "P64": n(64), "P63": n(0), "A2": n(0), "#REF": f(api.Ref), "Q1": f(api.Ref), "A65": f(api.Ref),
		"-A1": n(-5), "--A1": n(5), "-B1": n(0), "-C1": n(7), "-D1": f(api.Cycle), "-F1": n(-most), "-G1": f(api.Over), "-#REF": f(api.Ref), "-I1": f(api.Over), "-J1": f(9), "-0": n(0), "-A1/2": n(-2), "-(A1/2)": n(-2),
		"1-2-3": n(-4), "1-(2-3)": n(2), "2+3*4": n(14), "(2+3)*4": n(20), "8/2/2": n(2), "7/(0-2)": n(-3), "A1*2-C1": n(17), "A1/B1": f(api.Div), "B1/A1": n(0), "H1/H1": f(api.Div), "G1/-1": f(api.Over), "G1*-1": f(api.Over), "G1-1": f(api.Over), "G1+F1": n(-1), "F1+1": f(api.Over), "F1-G1": f(api.Over), "F1*2": f(api.Over), "F1+1-1": f(api.Over), "F1-1+1": n(most), "0-G1": f(api.Over),
		"A1<C1": n(0), "C1<A1": n(1), "A1<=5": n(1), "A1=5": n(1), "A1<>5": n(0), "A1>=6": n(0), "A1>4": n(1), "B1=H1": n(1), "G1<F1": n(1), "1<2=(3>4)": n(0), "(1<2)=(3<4)": n(1), "3>2>1": n(0),
		"D1+E1": f(api.Cycle), "E1+D1": f(api.Div), "1/0+D1": f(api.Div), "D1+1/0": f(api.Cycle), "F1+1+#REF": f(api.Over), "#REF+(F1+1)": f(api.Ref), "0*D1": f(api.Cycle), "D1=D1": f(api.Cycle), "L1/0": f(api.Ref), "0/L1": f(api.Ref), "I1-J1": f(api.Over), "K1*J1": f(-1), "A1<K1": f(-1),
	} {
		coming(t, s, want, sheet()...)
	}
}

// P7.1: what words come to, by the cells of the sheet above
func TestWords(t *testing.T) {
	for s, want := range map[string]api.Value{
		"IF(1,2,3)": n(2), "IF(0,2,3)": n(3), "IF(-1,2,3)": n(2), "IF(F1,2,3)": n(2), "IF(G1,2,3)": n(2), "IF(B1,2,3)": n(3), "IF(H1,2,3)": n(3), "IF(A1>4,1,1/0)": n(1), "IF(A1<4,1/0,2)": n(2), "IF(1,C1,#REF)": n(-7), "IF(0,#REF,C1)": n(-7), "IF(1,D1,2)": f(api.Cycle), "IF(0,1,D1)": f(api.Cycle), "IF(1,1/0,D1)": f(api.Div), "IF(0,1/0,D1)": f(api.Cycle), "IF(1,I1,2)": f(api.Over), "IF(0,1,J1)": f(9),
		"IF(D1,1,2)": f(api.Cycle), "IF(D1,1/0,#REF)": f(api.Cycle), "IF(1/0,1,2)": f(api.Div), "IF(#REF,D1,E1)": f(api.Ref), "IF(F1+1,1,2)": f(api.Over), "IF(I1,1,2)": f(api.Over), "IF(J1,1,2)": f(9), "IF(K1,1,2)": f(-1), "IF(IF(1,0,5),1/0,IF(A1,8,9))": n(8), "IF(1,B1,7)": n(0), "IF(0,7,B1)": n(0),
		"SUM(1)": n(1), "SUM(B1)": n(0), "SUM(B2:C9)": n(0), "SUM(A1:A1)": n(5), "SUM(B1:B1)": n(0), "SUM(A1:C1)": n(-2), "SUM(C1:A3)": n(1), "SUM(A1:B3,A1:A1,A1)": n(18), "SUM(A1:C1,-1,A1)": n(2), "SUM(F1:G1)": n(-1), "SUM(G1,-1,1)": f(api.Over), "SUM(F1,1,-1)": f(api.Over), "SUM(F1,-1,1)": n(most), "SUM(A1:P64)": f(api.Cycle), "SUM(A2:P64)": n(67),
		"SUM(A1:D1)": f(api.Cycle), "SUM(E1,D1)": f(api.Div), "SUM(D1:E1)": f(api.Cycle), "SUM(E1:F1,D1)": f(api.Div), "SUM(F1,1,#REF)": f(api.Over), "SUM(F1,#REF,1)": f(api.Ref), "SUM(A1,#REF,D1:E1)": f(api.Ref), "SUM(A1:C1,D1:E1,#REF)": f(api.Cycle), "SUM(A1,I1:K1)": f(api.Over), "SUM(J1:K1)": f(9), "SUM(K1)": f(-1), "SUM(1/0,#REF)": f(api.Div), "SUM(#REF:A1,1/0)": f(api.Ref),
		"MIN(3,1,2)": n(1), "MIN(B2:B9)": n(0), "MIN(B2:B9,4)": n(4), "MIN(B1:C9)": n(-7), "MIN(A1:B1)": n(5), "MIN(A1:B1,B1)": n(0), "MIN(A1,A1:A3)": n(3), "MIN(F1:G1,0)": n(least), "MIN(A1:H1)": f(api.Cycle), "MIN(E1,D1)": f(api.Div), "MIN(A1,#REF)": f(api.Ref), "MIN(1,F1+1,#REF)": f(api.Over), "MIN(J1,1)": f(9), "MIN(1,I1)": f(api.Over), "MIN(P64:P64)": n(64),
		"MAX(3,1,2)": n(3), "MAX(-4,-2)": n(-2), "MAX(B2:B9)": n(0), "MAX(B2:B9,-4)": n(-4), "MAX(C1:C9)": n(-7), "MAX(B1:C1)": n(-7), "MAX(C1,B1)": n(0), "MAX(A1:C3)": n(5), "MAX(F1:G1,0)": n(most), "MAX(A1:H1)": f(api.Cycle), "MAX(E1,D1)": f(api.Div), "MAX(#REF,A1)": f(api.Ref), "MAX(1/0,F1+1)": f(api.Div), "MAX(K1,1)": f(-1), "MAX(1,I1)": f(api.Over), "MAX(P64:P64,63)": n(64),
		"COUNT(A1:A1)": n(1), "COUNT(B1:B1)": n(0), "COUNT(H1:H1)": n(1), "COUNT(B2:C9)": n(0), "COUNT(A1:C1)": n(2), "COUNT(D1:E1)": n(2), "COUNT(A1:M1)": n(12), "COUNT(A1:P64)": n(14), "COUNT(A1:B3,A1:C1)": n(4), "COUNT(A1:A1,A1:A1,A1:A1)": n(3), "COUNT(A1:C1,C1:E1)": n(5), "COUNT(I1:K1)": n(3), "COUNT(#REF)": f(api.Ref), "COUNT(#REF,A1:C1)": f(api.Ref), "COUNT(A1:C1,#REF)": f(api.Ref), "COUNT(D1:E1,#REF)": f(api.Ref), "COUNT(A1:#REF)": f(api.Ref), "COUNT(A1:Q1)": f(api.Ref), "COUNT(P64:P64)": n(1),
		"SUM(MIN(4,2),MAX(A1:C1),COUNT(A1:C1))": n(9), "IF(COUNT(A1:C1)=2,SUM(A1:C1),1/0)*2": n(-4), "SUM(A1:A3,IF(1,A1,1/0),-C1)": n(20), "MAX(SUM(A1:C1),-SUM(A1:C1))": n(2), "COUNT(A1:C1)+COUNT(#REF)": f(api.Ref),
	} {
		coming(t, s, want, sheet()...)
	}
}

// P7.1: no cells at all
func TestNoCells(t *testing.T) {
	for s, want := range map[string]api.Value{
		"0": n(0), "4": n(4), "A1": n(0), "P64": n(0), "#REF": f(api.Ref), "-A1": n(0), "A1+1": n(1), "1/A1": f(api.Div), "A1=B1": n(1), "IF(A1,1/0,3)": n(3),
		"SUM(A1:P64)": n(0), "MIN(A1:P64)": n(0), "MAX(A1:P64)": n(0), "COUNT(A1:P64)": n(0), "MIN(A1:P64,4)": n(4), "MAX(A1:P64,-4)": n(-4), "MIN(A1,4)": n(0), "MAX(A1,-4)": n(0), "COUNT(A1:B2,#REF)": f(api.Ref), "9223372036854775807+1": f(api.Over),
	} {
		coming(t, s, want)
		coming(t, s, want, []api.Cell{}...)
		coming(t, s, want, sheet()[:0]...)
	}
}

// P7.1: of several cells at one place the first one counts, be it faulty, or 0, or one that may not be
func TestFirst(t *testing.T) {
	values := []api.Value{n(0), n(5), n(-7), f(api.Div), f(api.Cycle), {Num: 8, Fault: api.Ref}, {Num: 1, Fault: 7}}
	cell := func(s string, v api.Value) api.Cell { return api.Cell{At: told(s), Value: v} }
	for _, a := range values {
		for _, b := range values {
			for _, c := range values {
				l := []api.Cell{cell("B2", n(1)), cell("A1", a), cell("A1", b), cell("B2", f(api.Over)), cell("A1", c), cell("B2", a)}
				for _, x := range []plain{read(told("A1")), sum(span(told("A1"), told("B2"))), count(span(told("A1"), told("B2"))), lowest(span(told("A1"), told("B1"))), op("-", read(told("B2")), read(told("A1"))), choice(read(told("A1")), number(3), read(told("B2")))} {
					judge(t, x, l)
				}
				want := a
				if a.Fault != 0 {
					want = f(a.Fault)
				}
				coming(t, "A1", want, l...)
				coming(t, "B2", n(1), l...)
				coming(t, "COUNT(A1:B2)", n(2), l...)
			}
		}
	}
}

// singles are parts of all sorts that give one value, of the sheet above.
func singles() []plain {
	l := []plain{number(0), number(1), number(most), bad(), minus(number(1)), op("/", number(1), number(0)), op("+", number(most), number(1))}
	for i := range 13 {
		l = append(l, read(at(i, 0)))
	}
	return l
}

// spans are ranges of the sheet above: one place, and several; without a cell, with one, with several; with faults.
func spans() []plain {
	var l []plain
	for _, ends := range [][2]string{{"A1", "A1"}, {"B1", "B1"}, {"D1", "D1"}, {"B2", "C9"}, {"A1", "C1"}, {"A1", "B3"}, {"C1", "D1"}, {"D1", "E1"}, {"F1", "G1"}, {"I1", "K1"}, {"G1", "P64"}, {"O63", "P64"}} {
		l = append(l, span(told(ends[0]), told(ends[1])))
	}
	return l
}

// P7.1: each mark, each number's sign, each choice, of all sorts of parts
func TestAllParts(t *testing.T) {
	l := sheet()
	for _, a := range singles() {
		judge(t, a, l)
		judge(t, minus(a), l)
		for _, b := range singles() {
			for _, mark := range marks() {
				judge(t, op(mark, a, b), l)
			}
			for _, c := range singles() {
				judge(t, choice(a, b, c), l)
			}
		}
	}
}

// P7.1: each word, of all sorts of Kids, up to three; the faulty ones in any order
func TestAllLists(t *testing.T) {
	l := sheet()
	try := func(parts ...plain) {
		judge(t, sum(parts...), l)
		judge(t, lowest(parts...), l)
		judge(t, highest(parts...), l)
	}
	items := append(spans(), singles()...)
	for _, a := range items {
		try(a)
		for _, b := range items {
			try(a, b)
			for _, c := range append(spans()[3:7], number(2), bad(), read(told("B1")), read(told("E1"))) {
				try(a, b, c)
			}
		}
	}
	corners := append(spans(), bad())
	for _, a := range corners {
		judge(t, count(a), l)
		for _, b := range corners {
			judge(t, count(a, b), l)
			for _, c := range corners {
				judge(t, count(a, b, c), l)
			}
		}
	}
}

// P7.1: all spans of a few places, and those at the sheet's edges, with cells that make each one's sum its own
func TestSpans(t *testing.T) {
	var l []api.Cell
	for i := range 1024 {
		if i%3 != 1 {
			l = append(l, api.Cell{At: at(i%16, i/16), Value: n(i*i - 900*i)})
		}
	}
	edges := []int{0, 1, 2, 7, 14, 15}
	for _, col := range edges {
		for _, to := range edges {
			for _, row := range append(edges, 62, 63) {
				for _, last := range append(edges, 62, 63) {
					if to < col || last < row {
						continue
					}
					x := span(at(col, row), at(to, last))
					for _, whole := range []plain{sum(x), lowest(x), highest(x), count(x), count(x, x)} {
						if v, want := Of(whole.tree, l...), whole.is(l); v != want {
							t.Fatalf("%s: %v, want %v", syntax.Print(whole.tree), v, want)
						}
					}
				}
			}
		}
	}
}

// P7.1: a span's cells are gone through row by row, in each by column, in whichever order they are given
func TestSpanOrder(t *testing.T) {
	faults := []api.Cell{{At: told("C2"), Value: f(api.Over)}, {At: told("B3"), Value: f(api.Ref)}, {At: told("C3"), Value: f(api.Cycle)}, {At: told("B4"), Value: f(api.Div)}}
	for i := range faults {
		left := slices.Clone(faults[i:])
		for range 4 {
			left = append(left[1:], left[0])
			back := slices.Clone(left)
			slices.Reverse(back)
			for _, word := range []string{"SUM", "MIN", "MAX"} {
				coming(t, word+"(A1:D9)", faults[i].Value, left...)
				coming(t, word+"(A1:D9)", faults[i].Value, back...)
				coming(t, word+"(5,C9:B2,#REF)", faults[i].Value, left...)
			}
		}
	}
	// what runs over does so by that order, too
	l := []api.Cell{{At: told("A2"), Value: n(1)}, {At: told("A1"), Value: n(most)}, {At: told("B1"), Value: n(-1)}}
	coming(t, "SUM(A1:B2)", n(most), l...)
	coming(t, "SUM(A1:A2,B1)", f(api.Over), l...)
	coming(t, "SUM(B1,A1:A2)", n(most), l...)
}

// values are of all sorts, seldom faulty ones.
func values(r *rand.Rand) api.Value {
	switch r.IntN(20) {
	case 0:
		return f(api.Fault(1 + r.IntN(4)))
	case 1:
		return api.Value{Num: r.IntN(3) - 1, Fault: []api.Fault{1, 2, 3, 4, 5, 6, -1, most, least}[r.IntN(9)]}
	case 2, 3:
		return n(int(r.Uint64()) >> r.IntN(64))
	}
	return n(r.IntN(9) - 4)
}

// near is a place at random, near the others.
func near(r *rand.Rand) api.Place { return at(6+r.IntN(3), 30+r.IntN(3)) }

// spanned is a span at random.
func spanned(r *rand.Rand) plain {
	a, b := near(r), near(r)
	return span(at(min(a.Col, b.Col), min(a.Row, b.Row)), at(max(a.Col, b.Col), max(a.Row, b.Row)))
}

// leaf is a part without Kids at random.
func leaf(r *rand.Rand) plain {
	switch r.IntN(12) {
	case 0:
		return bad()
	case 1, 2, 3:
		return number(r.IntN(4))
	case 4:
		return number(most - r.IntN(2))
	}
	return read(near(r))
}

// grown is a part at random, with others below it.
func grown(r *rand.Rand, deep int) plain {
	if deep == 1 {
		return leaf(r)
	}
	kid := func() plain { return grown(r, deep-1-r.IntN(deep-1)) }
	switch r.IntN(9) {
	case 0:
		return minus(kid())
	case 1, 2, 3:
		return op(marks()[r.IntN(10)], kid(), kid())
	case 4, 5:
		return choice(kid(), kid(), kid())
	case 6:
		corners := []plain{spanned(r)}
		for range r.IntN(3) {
			corners = append(corners, []plain{spanned(r), spanned(r), spanned(r), bad()}[r.IntN(4)])
		}
		return count(corners...)
	}
	items := []plain{[]func() plain{kid, func() plain { return spanned(r) }}[r.IntN(2)]()}
	for range r.IntN(3) {
		items = append(items, []func() plain{kid, func() plain { return spanned(r) }}[r.IntN(2)]())
	}
	return []func(...plain) plain{sum, lowest, highest}[r.IntN(3)](items...)
}

// P7.1, P7.2: trees and cells at random
func TestRandom(t *testing.T) {
	r := rand.New(rand.NewPCG(71, 72))
	seen := map[api.Fault]int{}
	for range 20000 {
		x := grown(r, 1+r.IntN(7))
		if !syntax.Right(x.tree) {
			t.Fatalf("%v may not be", x.tree)
		}
		for range 3 {
			var l []api.Cell
			for range r.IntN(14) {
				l = append(l, api.Cell{At: near(r), Value: values(r)})
			}
			judge(t, x, l)
			seen[x.is(l).Fault]++
		}
	}
	for _, fault := range []api.Fault{api.Fine, api.Over, api.Div, api.Ref, api.Cycle, 5, -1} {
		if seen[fault] < 50 {
			t.Errorf("only %v", seen)
		}
	}
}

// P7.2: what is at a place counts for the trees that read it, and for no other one
func TestRead(t *testing.T) {
	x := tree(t, "SUM(B2:C3)+E5")
	for i := range 1024 {
		p := at(i%16, i/16)
		want := n(0)
		if shape.Uses(x, p) {
			want = n(9)
		}
		for _, v := range []api.Value{n(9), f(api.Cycle), {Num: 9, Fault: 9}} {
			if v.Fault != 0 && want != n(0) {
				want = f(v.Fault)
			}
			if is := Of(x, api.Cell{At: p, Value: v}); is != want {
				t.Errorf("%v at %v: %v", v, p, is)
			}
		}
	}
	for _, p := range wrong() {
		if v := Of(tree(t, "SUM(A1:P64)+COUNT(A1:P64)+A1+P64"), api.Cell{At: p, Value: n(9)}, api.Cell{At: p, Value: f(api.Ref)}); v != n(0) {
			t.Errorf("at %v: %v", p, v)
		}
	}
}

// P7.2: without a fault in what is read, and a Bad, each tree is a number, OVER, or DIV
func TestNoFault(t *testing.T) {
	r := rand.New(rand.NewPCG(73, 74))
	count := 0
	for count < 5000 {
		x := grown(r, 1+r.IntN(6)).tree
		if shape.Bads(x) > 0 {
			continue
		}
		count++
		var l []api.Cell
		for i := range 1024 {
			if p := at(i%16, i/16); !shape.Uses(x, p) {
				l = append(l, api.Cell{At: p, Value: f(api.Fault(1 + r.IntN(4)))})
			} else if r.IntN(3) > 0 {
				l = append(l, api.Cell{At: p, Value: n(int(r.Uint64()) >> r.IntN(64))})
			}
		}
		if v := Of(x, l...); v.Fault != api.Fine && v.Fault != api.Over && v.Fault != api.Div || v.Fault != api.Fine && v.Num != 0 {
			t.Errorf("%s: %v", syntax.Print(x), v)
		}
	}
}

// refused holds that a tree that may not be is REF, whatever the cells are.
func refused(t *testing.T, x api.Tree) {
	t.Helper()
	for _, l := range [][]api.Cell{nil, sheet(), {{At: told("B3"), Value: f(api.Cycle)}}, {{At: told("B3"), Value: n(2)}, {At: told("A1"), Value: f(9)}}} {
		if v := Of(x, l...); v != f(api.Ref) {
			t.Errorf("%v by %v: %v", x, l, v)
		}
	}
}

// P7.1: trees that may not be, alone, and as a part that else might, even one that isn't taken
func TestMayNot(t *testing.T) {
	read, spot := tree(t, "B3"), api.Range{From: told("B3"), To: told("B3")}
	kids := func(kind api.Kind, word string, l ...api.Tree) api.Tree {
		return api.Tree{Kind: kind, Word: word, Kids: l}
	}
	span := api.Tree{Kind: api.Span, At: api.Range{From: told("A1"), To: told("B3")}}
	deep := read
	for range 16 {
		deep = kids(api.Neg, "", deep)
	}
	for _, x := range []api.Tree{
		{Kind: -1}, {Kind: 7}, {Kind: 255}, {Kind: most}, {Kind: least}, {Num: -1}, {Num: least}, {At: spot}, {Word: "+"}, {Kids: []api.Tree{read}}, {Kind: api.Bad, Num: 1}, {Kind: api.Bad, At: spot}, {Kind: api.Bad, Word: "#REF"}, {Kind: api.Bad, Kids: []api.Tree{read}},
		{Kind: api.Read, At: span.At}, {Kind: api.Read, At: spot, Num: 1}, {Kind: api.Read, At: spot, Word: "B3"}, {Kind: api.Read, At: spot, Kids: []api.Tree{read}}, {Kind: api.Read, At: api.Range{From: at(16, 0), To: at(16, 0)}}, {Kind: api.Read, At: api.Range{From: at(0, -1), To: at(0, -1)}}, {Kind: api.Read, At: api.Range{From: at(least, most), To: at(least, most)}},
		kids(api.Neg, ""), kids(api.Neg, "", read, read), kids(api.Neg, "-", read), kids(api.Neg, "", span), {Kind: api.Neg, Num: 1, Kids: []api.Tree{read}}, {Kind: api.Neg, At: spot, Kids: []api.Tree{read}},
		kids(api.Op, "+"), kids(api.Op, "+", read), kids(api.Op, "+", read, read, read), kids(api.Op, "", read, read), kids(api.Op, "%", read, read), kids(api.Op, "SUM", read, read), kids(api.Op, "+", read, span), kids(api.Op, "+", span, read), {Kind: api.Op, Word: "+", Num: 1, Kids: []api.Tree{read, read}},
		kids(api.Call, "IF"), kids(api.Call, "IF", read, read), kids(api.Call, "IF", read, read, read, read), kids(api.Call, "IF", span, read, read), kids(api.Call, "IF", read, span, read), kids(api.Call, "IF", read, read, span), kids(api.Call, "SUM"), kids(api.Call, "MIN"), kids(api.Call, "MAX"), kids(api.Call, "COUNT"), kids(api.Call, "COUNT", read), kids(api.Call, "COUNT", span, api.Tree{Num: 1}),
		kids(api.Call, "", read), kids(api.Call, "sum", read), kids(api.Call, "AVG", read), kids(api.Call, "+", read, read), kids(api.Call, "SUM ", read), {Kind: api.Call, Word: "SUM", Num: 1, Kids: []api.Tree{read}}, {Kind: api.Call, Word: "SUM", At: spot, Kids: []api.Tree{read}},
		{Kind: api.Span, At: api.Range{From: told("B3"), To: told("A1")}}, {Kind: api.Span, At: api.Range{From: at(0, 0), To: at(16, 0)}}, {Kind: api.Span, At: api.Range{From: at(-1, 0), To: at(0, 0)}}, {Kind: api.Span, At: span.At, Num: 1}, {Kind: api.Span, At: span.At, Word: "SUM"}, {Kind: api.Span, At: span.At, Kids: []api.Tree{read}}, deep,
	} {
		refused(t, x)
		refused(t, kids(api.Neg, "", x))
		refused(t, kids(api.Op, "+", read, x))
		refused(t, kids(api.Op, "+", x, read))
		refused(t, kids(api.Call, "SUM", read, span, x))
		refused(t, kids(api.Call, "SUM", x, read))
		refused(t, kids(api.Call, "COUNT", span, x))
		refused(t, kids(api.Call, "IF", tree(t, "1"), read, x))
		refused(t, kids(api.Call, "IF", tree(t, "0"), x, read))
		refused(t, kids(api.Call, "IF", x, read, read))
	}
	// a Span alone, and where none may stand, though in a call one may; what is a Kid less deep may be
	refused(t, span)
	refused(t, kids(api.Neg, "", span))
	coming(t, "SUM(B3,A1:B3)", n(8), sheet()...)
	if v := Of(deep.Kids[0], api.Cell{At: told("B3"), Value: n(4)}); v != n(-4) {
		t.Errorf("what may be: %v", v)
	}
}

// P7.1: trees that are as deep as may be, wide ones, and many cells
func TestGreat(t *testing.T) {
	x, want := tree(t, "SUM(A1:A3,-1)"), 7
	for i := range 12 {
		x = api.Tree{Kind: api.Op, Word: "+", Kids: []api.Tree{x, {Num: i}}}
		want += i
	}
	x = api.Tree{Kind: api.Call, Word: "IF", Kids: []api.Tree{x, x, x}}
	if v := Of(x, sheet()...); v != n(want) || syntax.Deep(x) != 16 {
		t.Errorf("%v, %d deep", v, syntax.Deep(x))
	}
	wide := api.Tree{Kind: api.Call, Word: "SUM"}
	counted := api.Tree{Kind: api.Call, Word: "COUNT"}
	whole := api.Tree{Kind: api.Span, At: api.Range{From: at(0, 0), To: at(15, 63)}}
	for range 1000 {
		wide.Kids = append(wide.Kids, whole, api.Tree{Num: 1})
		counted.Kids = append(counted.Kids, whole)
	}
	var l []api.Cell
	for i := range 200000 {
		l = append(l, api.Cell{At: at(i%16, i/16%64), Value: n(1 + i/1024)})
	}
	if v, w := Of(wide, l...), Of(counted, l...); v != n(1025000) || w != n(1024000) {
		t.Errorf("%v %v", v, w)
	}
}

// P1: trees that are much too deep, and trees that have themselves
func TestEnds(t *testing.T) {
	deep := tree(t, "B3")
	for range 1<<16 - 1 {
		deep = api.Tree{Kind: api.Neg, Kids: []api.Tree{deep}}
	}
	ring := []api.Tree{tree(t, "B3"), {}}
	ring[1] = api.Tree{Kind: api.Op, Word: "+", Kids: ring}
	for _, x := range []api.Tree{deep, ring[1], {Kind: api.Call, Word: "SUM", Kids: ring}} {
		for _, l := range [][]api.Cell{nil, sheet()} {
			if v := Of(x, l...); v != f(api.Ref) {
				t.Errorf("%v", v)
			}
		}
	}
}

// Rule 4: what is handed in is not written into, and what lies behind a list's length is not looked at
func TestMemory(t *testing.T) {
	room := []api.Tree{tree(t, "A1"), tree(t, "A3"), tree(t, "#REF")}
	cells := append(sheet()[:2:2], api.Cell{At: told("A3"), Value: f(api.Cycle)}, api.Cell{At: told("A1"), Value: f(api.Div)})
	was := fmt.Sprint(room, cells)
	for _, word := range []string{"SUM", "MIN", "MAX"} {
		x := api.Tree{Kind: api.Call, Word: word, Kids: room[:2]}
		want := n(5)
		if word == "MIN" {
			want = n(0)
		}
		if v := Of(x, cells[:2]...); v != want {
			t.Errorf("%s: %v", word, v)
		}
		if v := Of(x, cells...); v != f(api.Cycle) {
			t.Errorf("%s: %v", word, v)
		}
	}
	if is := fmt.Sprint(room, cells); is != was {
		t.Errorf("%s, was %s", is, was)
	}
	// what is handed in is not kept: what is changed behind the call changes no answer, and no list is written into
	l := sheet()
	x := tree(t, "SUM(A1:C1)")
	Of(x, l...)
	l[0].Value = n(100)
	if v := Of(x, l...); v != n(93) || Of(x, sheet()...) != n(-2) {
		t.Errorf("%v", v)
	}
}

// Rule 6: Kids without elements are as none
func TestEmptyKids(t *testing.T) {
	none := []api.Tree{}
	corner := api.Tree{Kind: api.Span, At: api.Range{From: told("A1"), To: told("C1")}, Kids: none}
	spot := api.Tree{Kind: api.Read, At: api.Range{From: told("A3"), To: told("A3")}, Kids: none}
	for _, y := range []struct {
		x    api.Tree
		want api.Value
	}{
		{api.Tree{Num: 7, Kids: none}, n(7)}, {spot, n(3)}, {api.Tree{Kind: api.Bad, Kids: none}, f(api.Ref)}, {api.Tree{Kind: api.Call, Word: "SUM", Kids: []api.Tree{corner, spot}}, n(1)}, {api.Tree{Kind: api.Call, Word: "COUNT", Kids: []api.Tree{corner}}, n(2)},
	} {
		if v := Of(y.x, sheet()...); v != y.want {
			t.Errorf("%v: %v, want %v", y.x, v, y.want)
		}
	}
}

// P2: what was asked ahead changes no answer
func TestSameAnswer(t *testing.T) {
	ask := func() string {
		var l []api.Value
		for _, s := range []string{"A1", "B1", "-C1", "A1*C1-7", "IF(A1,C1,1/0)", "SUM(A1:C3)", "MIN(A1:C3)", "MAX(A1:C3)", "COUNT(A1:C3)", "SUM(A1:D1)"} {
			l = append(l, Of(tree(t, s), sheet()...))
		}
		return fmt.Sprint(l)
	}
	first := ask()
	r := rand.New(rand.NewPCG(75, 76))
	for range 500 {
		Of(grown(r, 5).tree, api.Cell{At: told("A1"), Value: n(r.IntN(100))}, api.Cell{At: told("B1"), Value: f(api.Over)})
	}
	Of(api.Tree{Kind: api.Neg}, api.Cell{At: told("C1"), Value: n(1)})
	if again := ask(); again != first || first != ask() {
		t.Errorf("%s, then %s", first, again)
	}
}
