package incr

import (
	"fmt"
	"math/rand/v2"
	"slices"
	"strings"
	"testing"

	"gridiron/api"
	"gridiron/calc"
)

// edits are those of places and texts, in turn.
func edits(l ...string) []api.Source {
	var s []api.Source
	for i := 0; i < len(l); i += 2 {
		s = append(s, api.Source{At: spot(told(l[i])), Text: l[i+1]})
	}
	return s
}

// tell is all that is told of a state, in one text.
func tell(s *State) string {
	var b strings.Builder
	fmt.Fprint(&b, s.Sources(), s.Values())
	for i := range 1024 {
		if v := s.Value(spot(i)); v != n(0) {
			fmt.Fprint(&b, i, v)
		}
	}
	return b.String()
}

// text is a value's.
func text(v api.Value) string {
	return [...]string{fmt.Sprint(v.Num), "OVER", "DIV", "REF", "CYCLE"}[v.Fault]
}

// names are places' texts in one.
func names(l []api.Place) string {
	var s []string
	for _, p := range l {
		s = append(s, named(index(p)))
	}
	return strings.Join(s, " ")
}

// worth are cells with their values in one text.
func worth(l []api.Cell) string {
	var s []string
	for _, c := range l {
		s = append(s, named(index(c.At))+" "+text(c.Value))
	}
	return strings.Join(s, ", ")
}

// same holds that a state's values are those of its sheet, however they are asked.
func same(t *testing.T, s *State) {
	t.Helper()
	sources, values := s.Sources(), s.Values()
	if l, e := calc.Sheet(sources...); e != api.OK || !slices.Equal(l, sources) {
		t.Fatalf("sources: %v %d, want %v", sources, e, l)
	}
	if l, e := calc.Values(sources...); e != api.OK || !slices.Equal(l, values) {
		t.Fatalf("%v: %v, want %v %d", sources, values, l, e)
	}
	for i := range 1024 {
		var want api.Value
		if at := slices.IndexFunc(values, func(c api.Cell) bool { return c.At == spot(i) }); at >= 0 {
			want = values[at].Value
		}
		if v := s.Value(spot(i)); v != want {
			t.Fatalf("%v: %v at %s, want %v", sources, v, named(i), want)
		}
	}
}

// apart holds that cells that aren't dirty have the values that they had, and that dirty places are told rising, each once.
func apart(t *testing.T, was, is *State, dirty []api.Place) {
	t.Helper()
	var at [1024]bool
	for i, p := range dirty {
		if i > 0 && index(dirty[i-1]) >= index(p) {
			t.Fatalf("dirty: %v", dirty)
		}
		at[index(p)] = true
	}
	clean := func(c api.Cell) bool { return at[index(c.At)] }
	if a, b := slices.DeleteFunc(was.Values(), clean), slices.DeleteFunc(is.Values(), clean); !slices.Equal(a, b) {
		t.Fatalf("not dirty: %v, then %v", a, b)
	}
}

// next is a state behind edits; it holds that the one that was is as it was.
func next(t *testing.T, s *State, l []api.Source) (*State, []api.Place) {
	t.Helper()
	was, given := tell(s), slices.Clone(l)
	x, dirty, e := s.Next(l...)
	if e != api.OK || x == nil || x == s {
		t.Fatalf("%v: %v %d", l, dirty, e)
	}
	if tell(s) != was || !slices.Equal(l, given) {
		t.Fatalf("%v: was %s, is %s", l, was, tell(s))
	}
	same(t, x)
	apart(t, s, x, dirty)
	return x, dirty
}

// goes holds what edits of a state make: what is dirty, and all values.
func goes(t *testing.T, s *State, dirty, values string, l ...string) *State {
	t.Helper()
	x, is := next(t, s, edits(l...))
	if names(is) != dirty || worth(x.Values()) != values {
		t.Fatalf("%v: %s; %s; want %s; %s", l, names(is), worth(x.Values()), dirty, values)
	}
	return x
}

// fresh is the state of places and texts.
func fresh(t *testing.T, l ...string) *State {
	t.Helper()
	s, _ := next(t, New(), edits(l...))
	return s
}

// refuses holds that edits are none, and change nothing.
func refuses(t *testing.T, s *State, l ...api.Source) {
	t.Helper()
	was := tell(s)
	for range 2 {
		if x, dirty, e := s.Next(l...); x != nil || len(dirty) != 0 || e != api.ErrArg {
			t.Fatalf("%v: %v %v %d", l, x, dirty, e)
		}
	}
	if tell(s) != was {
		t.Fatalf("%v: was %s, is %s", l, was, tell(s))
	}
}

// P14.1: New has no sources, no values, 0 at each place
func TestNew(t *testing.T) {
	s := New()
	if len(s.Sources()) != 0 || len(s.Values()) != 0 {
		t.Errorf("%v %v", s.Sources(), s.Values())
	}
	for i := range 1024 {
		if v := s.Value(spot(i)); v != n(0) {
			t.Errorf("%d: %v", i, v)
		}
	}
	goes(t, s, "A1", "A1 5", "A1", "5")
	if x := New(); x == s || len(x.Sources()) != 0 {
		t.Errorf("%v", x)
	}
	var bare State
	goes(t, &bare, "A1 B1", "A1 5, B1 5", "A1", "5", "B1", "=A1")
	goes(t, &bare, "", "")
}

// P14.1: no edits at all, of an empty sheet and of others
func TestNoEdits(t *testing.T) {
	goes(t, New(), "", "")
	goes(t, goes(t, New(), "", ""), "", "")
	s := fresh(t, "A1", "5", "B1", "=A1", "C1", "=C1")
	x := goes(t, s, "", "A1 5, B1 5, C1 CYCLE")
	y := goes(t, x, "A1 B1", "A1 6, B1 6, C1 CYCLE", "A1", "6")
	goes(t, y, "", "A1 6, B1 6, C1 CYCLE")
	goes(t, x, "", "A1 5, B1 5, C1 CYCLE")
}

// P14.1: the first and the last place, alone, and as what is read
func TestEnds(t *testing.T) {
	s := goes(t, New(), "A1", "A1 -3", "A1", "-3")
	s = goes(t, s, "P64", "A1 -3, P64 -6", "P64", "=A1*2")
	s = goes(t, s, "A1 P64", "A1 7, P64 14", "A1", "7")
	s = goes(t, s, "A1 P64", "A1 CYCLE, P64 CYCLE", "A1", "=SUM(A2:P64)")
	s = goes(t, s, "A1 P64", "A1 9, P64 9", "P64", "9")
	s = goes(t, s, "A1 P64", "A1 0", "P64", "")
	goes(t, s, "A1 P64", "", "P64", "", "A1", "")
	goes(t, New(), "P1 A2 A64", "P1 1, A2 2, A64 3", "A64", "3", "P1", "1", "A2", "2")
}

// P14.1: an edit of a cell that is empty, that is filled, that is cleared; of one that is empty already, and of the text that is there
func TestEdit(t *testing.T) {
	s := fresh(t, "B1", "=A1+1", "C1", "=B1+1", "D1", "4")
	set := goes(t, s, "A1 B1 C1", "A1 5, B1 6, C1 7, D1 4", "A1", "5")
	goes(t, set, "A1 B1 C1", "A1 8, B1 9, C1 10, D1 4", "A1", "8")
	goes(t, set, "A1 B1 C1", "B1 1, C1 2, D1 4", "A1", "")
	goes(t, set, "B1 C1", "A1 5, C1 1, D1 4", "B1", "")
	goes(t, set, "C1", "A1 5, B1 6, D1 4", "C1", "")
	goes(t, set, "D1", "A1 5, B1 6, C1 7", "D1", "")
	goes(t, set, "A1 B1 C1", "A1 5, B1 6, C1 7, D1 4", "A1", "5") // what is there already
	goes(t, set, "B1 C1", "A1 5, B1 6, C1 7, D1 4", "B1", "=A1+1")
	goes(t, set, "C1", "A1 5, B1 6, C1 7, D1 4", "C1", "=B1+1")
	goes(t, s, "A1 B1 C1", "B1 1, C1 2, D1 4", "A1", "") // what is empty already, and read
	goes(t, s, "P9", "B1 1, C1 2, D1 4", "P9", "")
	goes(t, New(), "A1 P64", "", "P64", "", "A1", "")
	s = goes(t, s, "A1 B1 C1", "A1 0, B1 1, C1 2, D1 4", "A1", "0") // the same values, and dirty all the same
	s = goes(t, s, "A1 B1 C1", "A1 0, B1 1, C1 2, D1 4", "A1", "=0")
	goes(t, s, "A1 B1 C1 D1", "", "A1", "", "B1", "", "C1", "", "D1", "")
	x := goes(t, s, "B1 C1 D1", "A1 0", "D1", "", "C1", "", "B1", "")
	goes(t, x, "A1 E1 A2", "E1 5, A2 5", "E1", "5", "A2", "=E1", "A1", "") // what is cleared, and what comes, in one
}

// P14.1: of one place the last edit counts
func TestTwice(t *testing.T) {
	s := fresh(t, "A1", "1", "B1", "=A1*2")
	goes(t, s, "A1 B1", "A1 4, B1 8", "A1", "3", "A1", "4")
	goes(t, s, "A1 B1", "A1 4, B1 8", "A1", "", "A1", "4")
	goes(t, s, "A1 B1", "B1 0", "A1", "4", "A1", "")
	goes(t, s, "A1 B1", "A1 1, B1 2", "A1", "9", "A1", "1")
	goes(t, s, "A1 B1", "A1 3, B1 6", "A1", "1", "B1", "=B1", "A1", "", "A1", "2", "B1", "", "A1", "3", "B1", "=A1+A1")
	goes(t, s, "B1", "A1 1, B1 7", "B1", "=A1*A1", "B1", "7")
	goes(t, s, "B1", "A1 1", "B1", "=A1*A1", "B1", "=C1", "B1", "")
	goes(t, s, "B1", "A1 1, B1 0", "B1", "=A1", "B1", "=C1") // what the first one reads is not read
	goes(t, s, "B1 C1", "A1 1, B1 5, C1 5", "B1", "=A1", "C1", "5", "B1", "=C1")
	goes(t, s, "A1 B1", "A1 CYCLE, B1 CYCLE", "A1", "5", "A1", "=B1")
	goes(t, s, "A1 B1", "A1 5, B1 10", "A1", "=B1", "A1", "5")
	goes(t, New(), "C3", "", "C3", "7", "C3", "")
	goes(t, New(), "C3", "C3 8", "C3", "7", "C3", "", "C3", "8")
}

// P14.1: edits in rising, falling, and any order
func TestOrder(t *testing.T) {
	r := rand.New(rand.NewPCG(14, 1))
	s := fresh(t, "A1", "1", "B1", "=A1", "D4", "=B1+C1", "E5", "9")
	l := edits("A1", "2", "C1", "=A1*10", "A2", "=D4", "B2", "=B2", "D4", "=B1-C1", "E5", "", "P64", "=E5+1")
	for i := range 40 {
		m := slices.Clone(l)
		switch {
		case i == 1:
			slices.Reverse(m)
		case i > 1:
			r.Shuffle(len(m), func(i, j int) { m[i], m[j] = m[j], m[i] })
		}
		x, dirty := next(t, s, m)
		if names(dirty) != "A1 B1 C1 A2 B2 D4 E5 P64" || worth(x.Values()) != "A1 2, B1 2, C1 20, A2 -18, B2 CYCLE, D4 -18, P64 1" {
			t.Fatalf("%v: %s; %s", m, names(dirty), worth(x.Values()))
		}
	}
}

// P14.1: a literal in a formula's place, and a formula in a literal's
func TestKinds(t *testing.T) {
	s := fresh(t, "A1", "5", "B1", "=A1+1", "C1", "=B1*2")
	x := goes(t, s, "B1 C1", "A1 5, B1 40, C1 80", "B1", "40")
	goes(t, x, "A1", "A1 6, B1 40, C1 80", "A1", "6")
	x = goes(t, x, "B1 C1", "A1 5, B1 4, C1 8", "B1", "=A1-1")
	x = goes(t, x, "A1 B1 C1", "A1 0, B1 -1, C1 -2", "A1", "=D1")
	x = goes(t, x, "A1 B1 C1 D1", "A1 3, B1 2, C1 4, D1 3", "D1", "3")
	x = goes(t, x, "A1 B1 C1", "A1 2, B1 1, C1 2, D1 3", "A1", "2")
	x = goes(t, x, "D1", "A1 2, B1 1, C1 2, D1 4", "D1", "4")
	goes(t, x, "B1 C1", "A1 2, B1 7, C1 14, D1 4", "B1", "=7")
	goes(t, New(), "A1 B1 C1", "A1 9223372036854775807, B1 -9223372036854775808, C1 -1", "A1", "9223372036854775807", "B1", "-9223372036854775808", "C1", "=A1+B1")
}

// P14.1: a cell that others read, one that nobody reads, one that reads itself
func TestReaders(t *testing.T) {
	s := fresh(t, "A1", "1", "B1", "=A1", "C1", "=A1", "D1", "=B1+C1", "E1", "7", "F1", "=F1+A1", "G1", "=F1", "A2", "=E2")
	goes(t, s, "A1 B1 C1 D1 F1 G1", "A1 2, B1 2, C1 2, D1 4, E1 7, F1 CYCLE, G1 CYCLE, A2 0", "A1", "2")
	goes(t, s, "E1", "A1 1, B1 1, C1 1, D1 2, E1 8, F1 CYCLE, G1 CYCLE, A2 0", "E1", "8")
	goes(t, s, "D1", "A1 1, B1 1, C1 1, D1 0, E1 7, F1 CYCLE, G1 CYCLE, A2 0", "D1", "=B1-C1")
	goes(t, s, "F1 G1", "A1 1, B1 1, C1 1, D1 2, E1 7, F1 1, G1 1, A2 0", "F1", "=A1")
	goes(t, s, "G1", "A1 1, B1 1, C1 1, D1 2, E1 7, F1 CYCLE, G1 0, A2 0", "G1", "0")
	goes(t, s, "A1 B1 C1 D1 F1 G1", "A1 CYCLE, B1 CYCLE, C1 CYCLE, D1 CYCLE, E1 7, F1 CYCLE, G1 CYCLE, A2 0", "A1", "=A1")
	goes(t, s, "E1 A2 E2", "A1 1, B1 1, C1 1, D1 2, E1 CYCLE, F1 CYCLE, G1 CYCLE, A2 CYCLE, E2 CYCLE", "E1", "=E2", "E2", "=SUM(E1:E2)")
	goes(t, s, "B1 D1", "A1 1, C1 1, D1 1, E1 7, F1 CYCLE, G1 CYCLE, A2 0", "B1", "") // one of two ways to what is edited
}

// P14.1: a cell that is read through a range, in it and at its edges, filled and empty
func TestRange(t *testing.T) {
	s := fresh(t, "B2", "1", "C3", "2", "E5", "=SUM(B2:C3)", "E6", "=COUNT(B2:C3)", "E7", "=MIN(B2:C3)*E6", "E8", "=MAX(D4:D9)")
	values := func(all, count, least string) string {
		return "E5 " + all + ", E6 " + count + ", E7 " + least + ", E8 0"
	}
	goes(t, s, "B2 E5 E6 E7", "B2 -4, C3 2, "+values("-2", "2", "-8"), "B2", "-4")
	goes(t, s, "C2 E5 E6 E7", "B2 1, C2 5, C3 2, "+values("8", "3", "3"), "C2", "5")
	goes(t, s, "B3 E5 E6 E7", "B2 1, B3 0, C3 2, "+values("3", "3", "0"), "B3", "0")
	goes(t, s, "C3 E5 E6 E7", "B2 1, "+values("1", "1", "1"), "C3", "")
	goes(t, s, "B2 C3 E5 E6 E7", values("0", "0", "0"), "B2", "", "C3", "")
	goes(t, s, "B3 E5 E6 E7", "B2 1, C3 2, "+values("3", "2", "2"), "B3", "")
	for _, p := range []string{"A2", "B1", "C1", "D2", "D3", "B4", "C4", "D4", "A1", "A4", "D1"} {
		x, dirty := next(t, s, edits(p, "0"))
		want := p
		if p == "D4" {
			want = "D4 E8"
		}
		if names(dirty) != want || x.Value(spot(told("E5"))) != n(3) {
			t.Errorf("%s: %v", p, dirty)
		}
	}
	goes(t, s, "B3 E5 E6 E7", "B2 1, B3 CYCLE, C3 2, "+values("CYCLE", "3", "CYCLE"), "B3", "=E5")
}

// P14.1: an edit that makes a cycle, that ends it, that lengthens it
func TestCycles(t *testing.T) {
	s := fresh(t, "A1", "=B1", "B1", "=C1", "C1", "5", "D1", "=A1", "E1", "=E1", "F1", "3", "G1", "=F1")
	still := ", E1 CYCLE, F1 3, G1 3"
	goes(t, s, "A1 B1 C1 D1", "A1 0, B1 0, D1 0"+still, "C1", "")
	round := goes(t, s, "A1 B1 C1 D1", "A1 CYCLE, B1 CYCLE, C1 CYCLE, D1 CYCLE"+still, "C1", "=A1")
	for _, c := range []string{"A1", "B1", "C1"} { // it is ended at each of its cells
		goes(t, round, "A1 B1 C1 D1", "A1 8, B1 8, C1 8, D1 8"+still, c, "8")
		goes(t, round, "A1 B1 C1 D1", "A1 3, B1 3, C1 3, D1 3"+still, c, "=G1")
	}
	goes(t, round, "A1 B1 C1 D1", "A1 0, C1 0, D1 0"+still, "B1", "")
	goes(t, round, "A1 B1 C1 D1", "A1 CYCLE, B1 CYCLE, C1 CYCLE, D1 CYCLE"+still, "B1", "=C1") // as it was
	goes(t, round, "D1", "A1 CYCLE, B1 CYCLE, C1 CYCLE, D1 1"+still, "D1", "1")
	long := goes(t, round, "A1 B1 C1 D1", "A1 CYCLE, B1 CYCLE, C1 CYCLE, D1 CYCLE"+still, "C1", "=D1") // what hung on it is on it
	goes(t, long, "A1 B1 C1 D1", "A1 2, B1 2, C1 2, D1 2"+still, "D1", "2")
	short := goes(t, long, "A1 B1 C1 D1", "A1 CYCLE, B1 CYCLE, C1 CYCLE, D1 CYCLE"+still, "B1", "=A1")
	goes(t, short, "C1", "A1 CYCLE, B1 CYCLE, C1 6, D1 CYCLE"+still, "C1", "6")
	goes(t, short, "A1 B1 C1 D1", "A1 6, B1 6, C1 6, D1 6"+still, "A1", "6")
	goes(t, round, "A1 B1 C1 D1 E1", "A1 1, B1 1, C1 1, D1 1, E1 0, F1 3, G1 3", "E1", "=F1-G1", "A1", "1", "B1", "=A1", "C1", "=B1") // two, in one batch
	goes(t, round, "F1 G1", "A1 CYCLE, B1 CYCLE, C1 CYCLE, D1 CYCLE, E1 CYCLE, F1 CYCLE, G1 CYCLE", "F1", "=G1+A1")                   // a second one, that hangs on the first
	goes(t, goes(t, s, "A1 B1 C1 D1", "A1 CYCLE, B1 CYCLE, C1 CYCLE, D1 CYCLE"+still, "C1", "=SUM(A1:B1)"), "A1 B1 C1 D1", "A1 7, B1 CYCLE, C1 CYCLE, D1 7"+still, "A1", "7")
	// one stays, of two that have a cell
	two := fresh(t, "A1", "=B1+C1", "B1", "=A1", "C1", "=A1", "D1", "=C1")
	goes(t, two, "A1 B1 C1 D1", "A1 CYCLE, B1 4, C1 CYCLE, D1 CYCLE", "B1", "4")
	goes(t, two, "A1 B1 C1 D1", "A1 5, B1 5, C1 5, D1 5", "A1", "5")
	// a cell that no part takes is read all the same
	goes(t, fresh(t, "A1", "0", "B1", "=IF(A1,C1,1)"), "B1 C1", "A1 0, B1 CYCLE, C1 CYCLE", "C1", "=B1")
}

// P14.1: a cell that hung on an edited one ahead of the edit, and no longer does, or only now does
func TestHung(t *testing.T) {
	s := fresh(t, "A1", "1", "B1", "=A1", "C1", "=B1", "D1", "=C1", "E1", "9")
	x := goes(t, s, "B1 C1 D1", "A1 1, B1 4, C1 4, D1 4, E1 9", "B1", "4")
	goes(t, x, "A1", "A1 2, B1 4, C1 4, D1 4, E1 9", "A1", "2")
	goes(t, s, "A1 B1 C1 D1", "A1 2, B1 4, C1 4, D1 4, E1 9", "A1", "2", "B1", "4") // in one batch
	goes(t, s, "A1 B1 C1 D1", "A1 2, B1 2, C1 9, D1 9, E1 9", "A1", "2", "C1", "=E1", "B1", "=A1")
	goes(t, s, "A1 B1 C1 D1", "A1 2, B1 2, C1 2, D1 9, E1 9", "A1", "2", "D1", "=E1")
	x = goes(t, s, "C1 D1", "A1 1, B1 1, C1 9, D1 9, E1 9", "C1", "=E1")
	x = goes(t, x, "C1 D1 E1", "A1 1, B1 1, C1 7, D1 7, E1 7", "E1", "7")
	x = goes(t, x, "A1 B1", "A1 2, B1 2, C1 7, D1 7, E1 7", "A1", "2")
	x = goes(t, x, "C1 D1 E1", "A1 2, B1 2, C1 0, D1 0", "E1", "")
	x = goes(t, x, "C1 D1 E1", "A1 2, B1 2, C1 2, D1 2, E1 2", "E1", "=B1")
	goes(t, x, "A1 B1 C1 D1 E1", "A1 3, B1 3, C1 3, D1 3, E1 3", "A1", "3")
	goes(t, s, "A1 B1 C1 D1", "A1 2, C1 0, D1 0, E1 9", "A1", "2", "B1", "") // what was between has gone
	goes(t, fresh(t, "B1", "=A1", "C1", "=B1"), "A1 B1 C1", "A1 6, B1 6, C1 6", "A1", "6")
	goes(t, fresh(t, "C1", "=B1", "A1", "6"), "B1 C1", "A1 6, B1 6, C1 6", "B1", "=A1")
}

// line is a sheet of 1024 cells, each of which reads the one that is so much on, and adds 1.
func line(on int) []api.Source {
	var l []api.Source
	for i := range 1024 {
		s := "7"
		if i+on >= 0 && i+on < 1024 {
			s = "=" + named(i+on) + "+1"
		}
		l = append(l, api.Source{At: spot(i), Text: s})
	}
	return l
}

// reckoned holds which cells of a line are dirty, and what each one comes to.
func reckoned(t *testing.T, s *State, x api.Source, from, to int, want func(i int) (api.Value, bool)) *State {
	t.Helper()
	next, dirty, e := s.Next(x)
	if e != api.OK || len(dirty) != to-from {
		t.Fatalf("%v: %d dirty, %d", x, len(dirty), e)
	}
	for i, p := range dirty {
		if p != spot(from+i) {
			t.Fatalf("%v: %v", x, dirty)
		}
	}
	values := next.Values()
	for i := range 1024 {
		v, filled := want(i)
		if filled {
			if len(values) == 0 || values[0] != (api.Cell{At: spot(i), Value: v}) {
				t.Fatalf("%v: %d: %v, want %v", x, i, values, v)
			}
			values = values[1:]
		}
		if is := next.Value(spot(i)); is != v {
			t.Fatalf("%v: %d: %v, want %v", x, i, is, v)
		}
	}
	if len(values) != 0 {
		t.Fatalf("%v: %v", x, values)
	}
	return next
}

// P14.1: a line of 1024 cells each of which reads the next one, edited at either end, and between
func TestLine(t *testing.T) {
	all := func(of func(i int) int) func(i int) (api.Value, bool) {
		return func(i int) (api.Value, bool) { return n(of(i)), true }
	}
	for _, on := range []int{1, -1} {
		far := func(i int) int { // to the literal
			if on > 0 {
				return 1023 - i
			}
			return i
		}
		end, start := spot(1023), spot(0)
		if on < 0 {
			end, start = start, end
		}
		s, dirty, e := New().Next(line(on)...)
		if e != api.OK || len(dirty) != 1024 {
			t.Fatalf("%d %d", len(dirty), e)
		}
		same(t, s)
		s = reckoned(t, s, api.Source{At: end, Text: "-500"}, 0, 1024, all(func(i int) int { return far(i) - 500 }))
		first := index(start)
		cut := reckoned(t, s, api.Source{At: start, Text: "3"}, first, first+1, all(func(i int) int {
			if i == first {
				return 3
			}
			return far(i) - 500
		}))
		reckoned(t, cut, api.Source{At: end, Text: ""}, min(index(end), first+on), max(index(end), first+on)+1, func(i int) (api.Value, bool) {
			if i == first {
				return n(3), true
			}
			return n(max(far(i), 0)), i != index(end)
		})
		round := reckoned(t, s, api.Source{At: end, Text: "=" + named(first)}, 0, 1024, func(int) (api.Value, bool) { return f(api.Cycle), true })
		same(t, round)
		// ended far away from where it was closed
		reckoned(t, round, api.Source{At: spot(511), Text: "=9"}, 0, 1024, all(func(i int) int {
			steps := (511 - i) * on
			if steps < 0 {
				steps += 1023 // what joins the ends adds nothing
			}
			return 9 + steps
		}))
		reckoned(t, round, api.Source{At: start, Text: "1"}, 0, 1024, all(func(i int) int {
			if i == first {
				return 1
			}
			return 1 + far(i)
		}))
		from, to := 0, 512
		if on < 0 {
			from, to = 511, 1024
		}
		reckoned(t, s, api.Source{At: spot(511), Text: "9223372036854775000"}, from, to, func(i int) (api.Value, bool) {
			steps := (511 - i) * on
			switch {
			case steps < 0:
				return n(far(i) - 500), true
			case steps > 807:
				return f(api.Over), true
			}
			return n(9223372036854775000 + steps), true
		})
	}
}

// P14.1: 1024 edits, and more
func TestMany(t *testing.T) {
	r := rand.New(rand.NewPCG(14, 2))
	var l []api.Source
	for i := range 1024 {
		l = append(l, api.Source{At: spot(i), Text: fmt.Sprint(i * i)})
	}
	r.Shuffle(len(l), func(i, j int) { l[i], l[j] = l[j], l[i] })
	s, dirty := next(t, New(), l)
	if len(dirty) != 1024 || len(s.Values()) != 1024 || s.Value(spot(1023)) != n(1023*1023) {
		t.Errorf("%d %d", len(dirty), len(s.Values()))
	}
	for i := range l {
		l[i].Text = ""
	}
	if x, dirty := next(t, s, l); len(dirty) != 1024 || len(x.Values())+len(x.Sources()) != 0 {
		t.Errorf("%d %v", len(dirty), x.Values())
	}
	half, dirty := next(t, s, l[:512])
	if len(dirty) != 512 || len(half.Values()) != 512 {
		t.Errorf("%d %v", len(dirty), half.Values())
	}
	l = nil
	for i := range 200000 {
		l = append(l, api.Source{At: spot(i % 1024), Text: fmt.Sprint(i)})
	}
	x, dirty, e := s.Next(l...)
	if e != api.OK || len(dirty) != 1024 {
		t.Fatalf("%d %d", len(dirty), e)
	}
	for i := range 1024 {
		want := 199999 - (199999-i)%1024
		if x.Value(spot(i)) != n(want) {
			t.Fatalf("%d: %v, want %d", i, x.Value(spot(i)), want)
		}
	}
	l[199999].Text = "x"
	refuses(t, s, l...)
	var all []api.Source
	for i := range 1024 {
		all = append(all, api.Source{At: spot(i), Text: "=SUM(A1:P64)"})
	}
	round, dirty, e := s.Next(all...)
	if e != api.OK || len(dirty) != 1024 || slices.ContainsFunc(round.Values(), func(c api.Cell) bool { return c.Value != f(api.Cycle) }) {
		t.Fatalf("%d %d", len(dirty), e)
	}
	if x, dirty, e := round.Next(edits("B2", "7")...); e != api.OK || len(dirty) != 1024 || x.Value(spot(17)) != n(7) || x.Value(spot(0)) != f(api.Cycle) {
		t.Fatalf("%d %d", len(dirty), e)
	}
}

// P14.1: cells that come to each fault, and cells that read them, behind edits that bring it, and take it away
func TestFaults(t *testing.T) {
	s := fresh(t, "A1", "4", "B1", "=9223372036854775807", "C1", "=B1/A1", "D1", "=C1-1", "E1", "=IF(A1,1,D1)", "F1", "=COUNT(A1:D1)", "G1", "=SUM(A1:D1)")
	same := "B1 9223372036854775807, "
	goes(t, s, "A1 C1 D1 E1 F1 G1", "A1 0, "+same+"C1 DIV, D1 DIV, E1 DIV, F1 4, G1 DIV", "A1", "0")
	goes(t, s, "A1 C1 D1 E1 F1 G1", same+"C1 DIV, D1 DIV, E1 DIV, F1 3, G1 DIV", "A1", "")
	goes(t, s, "A1 C1 D1 E1 F1 G1", "A1 REF, "+same+"C1 REF, D1 REF, E1 REF, F1 4, G1 REF", "A1", "=#REF")
	goes(t, s, "A1 C1 D1 E1 F1 G1", "A1 OVER, "+same+"C1 OVER, D1 OVER, E1 OVER, F1 4, G1 OVER", "A1", "=B1+1")
	goes(t, s, "A1 C1 D1 E1 F1 G1", "A1 CYCLE, "+same+"C1 CYCLE, D1 CYCLE, E1 CYCLE, F1 CYCLE, G1 CYCLE", "A1", "=F1")
	x := goes(t, s, "A1 C1 D1 E1 F1 G1", "A1 1, "+same+"C1 9223372036854775807, D1 9223372036854775806, E1 1, F1 4, G1 OVER", "A1", "1")
	x = goes(t, x, "B1 C1 D1 E1 F1 G1", "A1 1, B1 REF, C1 REF, D1 REF, E1 1, F1 4, G1 REF", "B1", "=#REF")
	x = goes(t, x, "A1 C1 D1 E1 F1 G1", "A1 DIV, B1 REF, C1 REF, D1 REF, E1 DIV, F1 4, G1 DIV", "A1", "=1/0")
	x = goes(t, x, "B1 C1 D1 E1 F1 G1", "A1 DIV, B1 6, C1 DIV, D1 DIV, E1 DIV, F1 4, G1 DIV", "B1", "6")
	goes(t, x, "A1 C1 D1 E1 F1 G1", "A1 2, B1 6, C1 3, D1 2, E1 1, F1 4, G1 13", "A1", "2")
	goes(t, fresh(t, "B1", "=A1", "C1", "=B1+D1", "D1", "=#REF"), "A1 B1 C1", "A1 CYCLE, B1 CYCLE, C1 CYCLE, D1 REF", "A1", "=A1")
}

// P14.1: the state that was stays, whatever is made of it, twice of one state too
func TestStays(t *testing.T) {
	s := fresh(t, "A1", "5", "B1", "=A1*2", "C1", "=SUM(A1:B1)", "D1", "=D1")
	was := tell(s)
	a := goes(t, s, "A1 B1 C1", "A1 6, B1 12, C1 18, D1 CYCLE", "A1", "6")
	b := goes(t, s, "A1 B1 C1", "A1 7, B1 14, C1 21, D1 CYCLE", "A1", "7")
	c := goes(t, s, "B1 C1 D1 E1", "A1 5, C1 5, D1 5, E1 5", "D1", "=A1", "B1", "", "E1", "=D1")
	d := goes(t, a, "B1 C1", "A1 6, B1 8, C1 14, D1 CYCLE", "B1", "8")
	tells := []string{tell(a), tell(b), tell(c), tell(d)}
	goes(t, a, "A1 B1 C1", "B1 0, C1 0, D1 CYCLE", "A1", "")
	goes(t, c, "A1 C1 D1 E1", "C1 0, D1 0, E1 0", "A1", "")
	refuses(t, s, edits("A1", "9", "B1", "x")...)
	for range 3 {
		next(t, s, edits("A1", "1", "B1", "=C1", "C1", "", "D1", "7", "P64", "=D1"))
	}
	if tell(s) != was || !slices.Equal(tells, []string{tell(a), tell(b), tell(c), tell(d)}) {
		t.Errorf("%s, %v", tell(s), tells)
	}
}

// P14.1: Sources, Values and Value of filled cells and of empty ones, by indexes, and of places that may not be
func TestAsked(t *testing.T) {
	s := fresh(t, "P64", "=A1", "C1", "=1/0", "A2", "-7", "B1", "=C2", "A1", "0", "P1", "=P1")
	if is := s.Sources(); !slices.Equal(is, edits("A1", "0", "B1", "=C2", "C1", "=1/0", "P1", "=P1", "A2", "-7", "P64", "=A1")) {
		t.Errorf("%v", is)
	}
	if is := worth(s.Values()); is != "A1 0, B1 0, C1 DIV, P1 CYCLE, A2 -7, P64 0" {
		t.Errorf("%s", is)
	}
	for p, want := range map[string]api.Value{"A1": n(0), "B1": n(0), "C1": f(api.Div), "P1": f(api.Cycle), "A2": n(-7), "P64": n(0), "C2": n(0), "O64": n(0)} {
		if is := s.Value(spot(told(p))); is != want {
			t.Errorf("%s: %v", p, is)
		}
	}
	none := append(wrong(), api.Place{Col: -15, Row: 2}, api.Place{Col: 17, Row: -1}, api.Place{Col: 32, Row: -1}, api.Place{Col: -1, Row: 1})
	for _, p := range none {
		if is := s.Value(p); is != n(0) {
			t.Errorf("%v: %v", p, is)
		}
	}
}

// wrong are places that may not be.
func wrong() []api.Place {
	var l []api.Place
	for _, x := range []int{-1, 16, 64, 1024, -16, least, most, least + 1} {
		l = append(l, api.Place{Col: x, Row: 0}, api.Place{Col: x, Row: x})
		if x != 16 {
			l = append(l, api.Place{Col: 0, Row: x}, api.Place{Col: 15, Row: x})
		}
	}
	return l
}

// P14.1: a place that may not be, with a text or without, alone and among others
func TestPlaces(t *testing.T) {
	for _, s := range []*State{New(), fresh(t, "A1", "5", "P64", "=A1", "C3", "=C3")} {
		for _, p := range wrong() {
			for _, text := range []string{"", "1", "=A1", "x"} {
				x := api.Source{At: p, Text: text}
				refuses(t, s, x)
				refuses(t, s, append(edits("A1", "1", "B2", ""), x)...)
				refuses(t, s, append([]api.Source{x}, edits("A1", "1", "B2", "")...)...)
			}
		}
	}
}

// P14.1: texts that are not plain, or have more than 200 bytes, alone and among others, also if a plain one comes behind
func TestTexts(t *testing.T) {
	long := "=SUM(" + strings.Repeat("1,", 95) + "1111)" // 200 bytes
	texts := []string{" ", "00", "-0", "+1", "07", "1 ", " 1", "x", "A1", "1+1", "1.0", "9223372036854775808", "-9223372036854775809", "=", "= 1", "=1 ", "=01", "=(1)", "=a1", "=A01", "=B1:A1", "=A1:B2", "=SUM(B1:A1)", "=Q1", "=A65", "=1+", "=#DIV", "=(A1+B1)+C1", "==1", "=IF(1,2)", "=SUM()", "=COUNT(1)",
		long[:5] + "1" + long[5:], strings.Repeat("1", 201), "=" + strings.Repeat("1", 200), "=" + strings.Repeat("(", 17) + "1" + strings.Repeat(")", 17), "=" + strings.Repeat("-", 16) + "1", "\x00", "\xff", "５", strings.Repeat("=", 1<<20), strings.Repeat(" ", 1<<20)}
	for _, s := range []*State{New(), fresh(t, "A1", "5", "P64", "=A1", "C3", "=C3")} {
		for _, text := range texts {
			refuses(t, s, edits("A1", text)...)
			refuses(t, s, edits("B1", "1", "A1", text)...)
			refuses(t, s, edits("A1", text, "B1", "1", "B1", "")...)
			refuses(t, s, edits("A1", text, "A1", "1")...)
			refuses(t, s, edits("A1", text, "A1", "")...)
			refuses(t, s, edits("A1", "1", "A1", text, "A1", "1")...)
			refuses(t, s, append(edits("A1", text), api.Source{At: api.Place{Col: 16}})...)
		}
		for _, text := range []string{long, "=" + strings.Repeat("-", 15) + "1", "-9223372036854775808", "9223372036854775807", "=#REF", "=SUM(A2:B2)", "=A1=A1"} {
			next(t, s, edits("D1", text))
		}
	}
}

// Rule 8: a nil state: ErrArg, nothing, 0
func TestNil(t *testing.T) {
	var s *State
	for _, l := range [][]api.Source{nil, edits("A1", "1"), edits("A1", ""), edits("A1", "x"), {{At: api.Place{Col: 16}}}} {
		if x, dirty, e := s.Next(l...); x != nil || len(dirty) != 0 || e != api.ErrArg {
			t.Errorf("%v: %v %v %d", l, x, dirty, e)
		}
	}
	if len(s.Sources())+len(s.Values()) != 0 {
		t.Errorf("%v %v", s.Sources(), s.Values())
	}
	for _, p := range append(wrong(), spot(0), spot(1023)) {
		if v := s.Value(p); v != n(0) {
			t.Errorf("%v: %v", p, v)
		}
	}
}

// P14.1: only what is dirty is reckoned anew, by the values that the others have
func TestDirty(t *testing.T) {
	s := fresh(t, "A1", "1", "B1", "=A1", "C1", "=A1+D1", "D1", "=E1", "E1", "2", "F1", "=F1", "G1", "=A1+F1", "H1", "=H1")
	for i := range 8 {
		s.values[i] = n(100 * (i + 1)) // which no sheet gives them
	}
	x, dirty, e := s.Next(edits("A1", "3", "A2", "=H1+E1", "B2", "=#REF")...)
	if e != api.OK || names(dirty) != "A1 B1 C1 G1 A2 B2" || worth(x.Values()) != "A1 3, B1 3, C1 403, D1 400, E1 500, F1 600, G1 603, H1 800, A2 1300, B2 REF" {
		t.Errorf("%s; %s; %d", names(dirty), worth(x.Values()), e)
	}
}

// follow holds a state against a sheet, behind batches of edits at random; how often each fault was met, and how many cells were dirty, and weren't.
func follow(t *testing.T, m maker, batches, most int) (met [5]int, dirty, clean int) {
	t.Helper()
	s, plain := New(), sheet{}
	for range batches {
		var at []int
		var cells []cell
		var l []api.Source
		for range m.r.IntN(most + 1) {
			i := m.places[m.r.IntN(len(m.places))]
			c := m.cell(i)
			if m.r.IntN(10) < m.empty {
				c = cell{}
			}
			at, cells, l = append(at, i), append(cells, c), append(l, api.Source{At: spot(i), Text: c.text})
		}
		was, old := tell(s), s
		x, is, e := s.Next(l...)
		plain = plain.with(at, cells)
		values := plain.values()
		if e != api.OK || !slices.Equal(is, plain.dirty(at)) {
			t.Fatalf("%s: %v: dirty %v %d, want %v", was, l, is, e, plain.dirty(at))
		}
		if !slices.Equal(x.Sources(), plain.sources()) || !slices.Equal(x.Values(), values) {
			t.Fatalf("%s: %v: %v %v, want %v %v", was, l, x.Sources(), x.Values(), plain.sources(), values)
		}
		if s = x; tell(old) != was {
			t.Fatalf("%s: %v: %s", was, l, tell(old))
		}
		same(t, s)
		apart(t, old, s, is)
		for _, c := range values {
			met[c.Value.Fault]++
		}
		dirty, clean = dirty+len(is), clean+len(values)-len(is)
	}
	return met, dirty, clean
}

// corner are the places of a small range.
func corner(cols, rows int) []int {
	var l []int
	for row := range rows {
		for col := range cols {
			l = append(l, 16*row+col)
		}
	}
	return l
}

// P14.2: batches of edits at random, with few cells and with many, with cycles and without
func TestRandom(t *testing.T) {
	r := rand.New(rand.NewPCG(14, 3))
	for _, ahead := range []bool{false, true} {
		var all [5]int
		dirty, clean := 0, 0
		for _, x := range []struct{ times, batches, edits, cols, rows, formulas, empty int }{
			{40, 20, 2, 2, 1, 7, 3}, {40, 20, 2, 2, 2, 7, 3}, {40, 20, 3, 3, 3, 6, 3}, {20, 25, 4, 4, 5, 7, 2}, {10, 30, 3, 8, 8, 7, 1}, {6, 20, 60, 8, 8, 4, 4}, {2, 15, 60, 16, 16, 5, 1}, {1, 6, 700, 16, 64, 6, 1},
		} {
			for range x.times {
				met, d, c := follow(t, maker{r, corner(x.cols, x.rows), x.formulas, x.empty, ahead}, x.batches, x.edits)
				for i, times := range met {
					all[i] += times
				}
				dirty, clean = dirty+d, clean+c
			}
		}
		if ahead != (all[api.Cycle] == 0) || min(all[0], all[1], all[2], all[3]) < 100 || min(dirty, clean) < 2000 {
			t.Errorf("%v, %d dirty, %d not", all, dirty, clean)
		}
	}
}

// P14.2: places far from each other, and batches on few cells of a large sheet
func TestFar(t *testing.T) {
	r := rand.New(rand.NewPCG(14, 4))
	for i := range 60 {
		follow(t, maker{r, r.Perm(1024)[:10], 7, 2, i%2 == 0}, 12, 4)
	}
	m := maker{r, corner(16, 64), 3, 0, true}
	plain := sheet{}
	var at []int
	var cells []cell
	for i := range 1024 {
		at, cells = append(at, i), append(cells, m.cell(i))
	}
	plain = plain.with(at, cells)
	s, _ := next(t, New(), plain.sources())
	for range 12 {
		i := r.IntN(1024)
		c := m.cell(i)
		plain = plain.with([]int{i}, []cell{c})
		x, dirty := next(t, s, []api.Source{{At: spot(i), Text: c.text}})
		if !slices.Equal(dirty, plain.dirty([]int{i})) || !slices.Equal(x.Values(), plain.values()) {
			t.Fatalf("%d: %v, want %v", i, dirty, plain.dirty([]int{i}))
		}
		s = x
	}
}

// P14.2: whatever edits led to a sheet, its state is the same
func TestLed(t *testing.T) {
	r := rand.New(rand.NewPCG(14, 5))
	for range 150 {
		m := maker{r, corner(4, 4), 7, 2, false}
		want := sheet{}
		for _, i := range m.places {
			if r.IntN(5) > 0 {
				want[i] = m.cell(i)
			}
		}
		once, _ := next(t, New(), want.sources())
		led := New()
		for range 4 { // what is there for a while
			led, _ = next(t, led, edits(named(r.IntN(4)), m.cell(0).text, named(16+r.IntN(4)), m.cell(0).text))
		}
		for _, i := range r.Perm(64) {
			led, _ = next(t, led, []api.Source{{At: spot(i), Text: want[i].text}})
		}
		if tell(led) != tell(once) {
			t.Fatalf("%s, want %s", tell(led), tell(once))
		}
	}
}

// Rule 4: edits that are changed behind a call change no state, and answers that are changed change no later one
func TestOwned(t *testing.T) {
	l := edits("B2", "=SUM(A1:B1)", "A1", "5", "B1", "=A1*2", "C1", "=C1", "D1", "=E1", "P9", "")
	s, dirty, _ := New().Next(l...)
	was := tell(s)
	for i := range l {
		l[i] = api.Source{At: spot(9), Text: "x"}
	}
	x, again, _ := s.Next(edits("A1", "6")...)
	is := tell(x)
	for range 2 {
		for _, d := range [][]api.Place{dirty, again} {
			for i := range d {
				d[i] = api.Place{Col: 77}
			}
			_ = append(d, api.Place{Col: 78})
		}
		for _, y := range []*State{s, x} {
			sources, values := y.Sources(), y.Values()
			for i := range sources {
				sources[i], values[i] = api.Source{Text: "y"}, api.Cell{Value: n(9)}
			}
			_, _ = append(sources, api.Source{}), append(values, api.Cell{})
		}
		if tell(s) != was || tell(x) != is {
			t.Errorf("%s, %s; want %s, %s", tell(s), tell(x), was, is)
		}
	}
	if y := goes(t, s, "A1 B1 B2", "A1 6, B1 12, C1 CYCLE, D1 0, B2 18", "A1", "6"); tell(y) != is {
		t.Errorf("%s, want %s", tell(y), is)
	}
}

// Rule 4: what lies behind a list's length is neither read nor written
func TestBehind(t *testing.T) {
	l := edits("B1", "=A1", "A1", "5", "A1", "x", "B1", "7", "C1", "8")
	for range 2 {
		x, dirty, e := New().Next(l[:2]...)
		if e != api.OK || names(dirty) != "A1 B1" || worth(x.Values()) != "A1 5, B1 5" {
			t.Errorf("%v %v %d", x, dirty, e)
		}
		if !slices.Equal(l, edits("B1", "=A1", "A1", "5", "A1", "x", "B1", "7", "C1", "8")) {
			t.Errorf("%v", l)
		}
		if x, dirty, e := New().Next(l[:0]...); e != api.OK || len(dirty) != 0 || len(x.Sources()) != 0 {
			t.Errorf("%v %v %d", x, dirty, e)
		}
	}
}

// P2: what was asked ahead, of other states too, changes no answer
func TestAgain(t *testing.T) {
	s := fresh(t, "A1", "5", "B1", "=A1", "C1", "=D1", "D1", "=C1")
	ask := func() string {
		var b strings.Builder
		for _, l := range [][]api.Source{nil, edits("A1", "6"), edits("C1", "=A1", "E1", ""), edits("A1", "x"), edits("A1", "=B1", "A1", "7"), line(1), line(-1)} {
			x, dirty, e := s.Next(l...)
			fmt.Fprint(&b, x.Sources(), x.Values(), dirty, e)
		}
		return b.String() + tell(s)
	}
	first := ask()
	r := rand.New(rand.NewPCG(14, 6))
	for range 10 {
		follow(t, maker{r, corner(3, 3), 7, 2, false}, 8, 3)
		refuses(t, s, edits("C1", "9", "D1", " ")...)
	}
	if again := ask(); again != first {
		t.Errorf("%s, then %s", first, again)
	}
}
