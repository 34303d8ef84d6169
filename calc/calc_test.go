package calc

import (
	"fmt"
	"math/big"
	"math/rand/v2"
	"slices"
	"strings"
	"testing"

	"gridiron/api"
	"gridiron/eval"
	"gridiron/graph"
	"gridiron/syntax"
)

// source is one at a place's text.
func source(p, text string) api.Source { return api.Source{At: told(p), Text: text} }

// sources are those of places and texts, in turn.
func sources(l ...string) []api.Source {
	var s []api.Source
	for i := 0; i < len(l); i += 2 {
		s = append(s, source(l[i], l[i+1]))
	}
	return s
}

// rising are sources by their places' indexes.
func rising(l []api.Source) []api.Source {
	var s []api.Source
	for i := range 1024 {
		for _, x := range l {
			if index(x.At) == i {
				s = append(s, x)
			}
		}
	}
	return s
}

// turned is a list from its end on.
func turned[T any](l []T) []T {
	m := slices.Clone(l)
	slices.Reverse(m)
	return m
}

// shuffled is a list in any order.
func shuffled[T any](r *rand.Rand, l []T) []T {
	m := slices.Clone(l)
	r.Shuffle(len(m), func(i, j int) { m[i], m[j] = m[j], m[i] })
	return m
}

// orders are sources rising, falling, and in two other orders.
func orders(r *rand.Rand, l []api.Source) [][]api.Source {
	up := rising(l)
	return [][]api.Source{up, turned(up), shuffled(r, l), shuffled(r, l)}
}

// alike tells whether two lists of links are.
func alike(a, b []graph.Links) bool {
	return slices.EqualFunc(a, b, func(x, y graph.Links) bool { return x.At == y.At && slices.Equal(x.Reads, y.Reads) })
}

// norms holds what is told of a text.
func norms(t *testing.T, s, want string, from int, errno api.Errno) {
	t.Helper()
	if is, i, e := Norm(s); is != want || i != from || e != errno {
		t.Fatalf("%q: %q %d %d, want %q %d %d", s, is, i, e, want, from, errno)
	}
}

// says holds that a text has a plain one, which is its own.
func says(t *testing.T, s, plain string) {
	t.Helper()
	norms(t, s, plain, 0, api.OK)
	norms(t, plain, plain, 0, api.OK)
	may(t, plain, api.OK)
	if s != plain {
		may(t, s, api.ErrArg)
	}
}

// may holds whether a text may stand in a sheet.
func may(t *testing.T, s string, want api.Errno) {
	t.Helper()
	for _, l := range [][]api.Source{{{Text: s}}, sources("B1", "1", "A1", s), sources("A1", s, "B1", "=1"), sources("A2", "2", "P64", s, "C1", "=A1")} {
		is, e := Sheet(l...)
		v, f := Values(l...)
		x := Links(l...)
		if want != api.OK {
			l = nil
		}
		if e != want || f != want || !slices.Equal(is, rising(l)) || len(v) != len(l) || len(x) != len(l) {
			t.Fatalf("%q: %v %d, %v %d, %v, want %d", s, is, e, v, f, x, want)
		}
	}
}

// lacks holds that a sheet is none, and with which error.
func lacks(t *testing.T, want api.Errno, l ...api.Source) {
	t.Helper()
	is, e := Sheet(l...)
	v, f := Values(l...)
	x := Links(l...)
	if e != want || f != want || len(is) != 0 || len(v) != 0 || len(x) != 0 {
		t.Fatalf("%v: %v %d, %v %d, %v, want %d", l, is, e, v, f, x, want)
	}
}

// comes holds what cells come to: of each source, in order, its value.
func comes(t *testing.T, l []api.Source, want ...api.Value) {
	t.Helper()
	r := rand.New(rand.NewPCG(13, 1))
	for _, m := range orders(r, l) {
		v, e := Values(m...)
		if e != api.OK || len(v) != len(want) {
			t.Fatalf("%v: %v %d", m, v, e)
		}
		for i, s := range rising(l) {
			if w := want[slices.Index(l, s)]; v[i] != (api.Cell{At: s.At, Value: w}) {
				t.Fatalf("%v: %v, want %v at %s", m, v, w, named(s.At))
			}
		}
	}
}

// reads holds what the last one of sources reads.
func reads(t *testing.T, want []int, l ...api.Source) {
	t.Helper()
	x := Links(l...)
	if len(x) != len(l) {
		t.Fatalf("%v: %v", l, x)
	}
	last := len(l) - 1
	if x[last].At != index(l[last].At) || !slices.Equal(x[last].Reads, want) {
		t.Fatalf("%v: %v, want %v", l, x[last], want)
	}
}

// long is a text of so many bytes that is plain, if it isn't too long.
func long(length int) string {
	s := "=SUM(" + strings.Repeat("1,", 90)
	return s + strings.Repeat("1", length-len(s)-1) + ")"
}

// P13.1: literals, and texts that are nearly one
func TestLiterals(t *testing.T) {
	for _, s := range []string{"0", "1", "-1", "7", "-7", "10", "100", "9223372036854775807", "-9223372036854775807", "-9223372036854775808", "1000000000000000000"} {
		says(t, s, s)
	}
	for _, s := range []string{"", " ", "00", "-0", "+1", "+0", "07", "-07", " 7", "7 ", "- 7", "--7", "-", "+", "7-", "1.0", "1.", ".5", "1e3", "0x1", "0b1", "1_000", "1,000", "1+1", "(1)", "A1", "A1=", "SUM(1)", "#REF", "#DIV", "x", "7=7", " =7", "\t7", "7\n", "\x007", "7\x00", "１", "٣", "'7", "9223372036854775808", "-9223372036854775809", "18446744073709551616", "18446744073709551617", "99999999999999999999999", "-99999999999999999999999", "\xff"} {
		norms(t, s, "", 0, api.ErrForm)
		may(t, s, api.ErrArg)
	}
}

// P13.1: formulas: those that are plain, with blanks, with brackets that are not needed, and with such that are
func TestFormulas(t *testing.T) {
	for s, plain := range map[string]string{
		"=7": "=7", "=0": "=0", "= 7": "=7", "=7 ": "=7", "=  7  ": "=7", "=007": "=7", "=00": "=0", "=-7": "=-7", "=- 7": "=-7", "=--7": "=--7", "=-(7)": "=-7", "=-(1+2)": "=-(1+2)", "=-(-7)": "=--7", "=9223372036854775807": "=9223372036854775807", "=-9223372036854775807-1": "=-9223372036854775807-1",
		"=A1": "=A1", "=(A1)": "=A1", "=((A1))": "=A1", "=( A1 )": "=A1", "=P64": "=P64", "=#REF": "=#REF", "=Q1": "=#REF", "=A65": "=#REF", "=Z999": "=#REF", "=-Q1": "=-#REF",
		"=1-2-3": "=1-2-3", "=(1-2)-3": "=1-2-3", "=1-(2-3)": "=1-(2-3)", "=1+2*3": "=1+2*3", "=1+(2*3)": "=1+2*3", "=(1+2)*3": "=(1+2)*3", "=1*(2*3)": "=1*(2*3)", "=(1*2)*3": "=1*2*3", "=1<2=(3>4)": "=1<2=(3>4)", "=(1<2)=(3>4)": "=1<2=(3>4)", "=1<(2+3)": "=1<2+3", "=(1<2)+3": "=(1<2)+3", "=A1 <= B1": "=A1<=B1", "=A1<>B1": "=A1<>B1", "= A1>=  B1 ": "=A1>=B1",
		"=IF(A1,B1,C1)": "=IF(A1,B1,C1)", "=IF ( A1 , B1 , C1 )": "=IF(A1,B1,C1)", "=IF((A1),(B1+1),((C1)))": "=IF(A1,B1+1,C1)", "=SUM(B2:A1)": "=SUM(A1:B2)", "=SUM(A2:B1)": "=SUM(A1:B2)", "=SUM( B2 : A1 )": "=SUM(A1:B2)", "=SUM(A1:A1)": "=SUM(A1:A1)", "=SUM(A1:Q1)": "=SUM(#REF)", "=SUM(#REF:A1,1)": "=SUM(#REF,1)", "=MIN(A1, (2))": "=MIN(A1,2)", "=MAX(1)": "=MAX(1)", "=COUNT(A1:B2,C1:C9)": "=COUNT(A1:B2,C1:C9)", "=COUNT(Q1)": "=COUNT(#REF)", "=COUNT(A1:B2 , P65:A1)": "=COUNT(A1:B2,#REF)", "=SUM(SUM(A1:B2),MIN((A1),B1))": "=SUM(SUM(A1:B2),MIN(A1,B1))", "= SUM( B2:A1 ) - Q1": "=SUM(A1:B2)-#REF", "=A1-(Q1)": "=A1-#REF",
	} {
		says(t, s, plain)
	}
}

// P13.1: an error of a formula is told at its place in the source's text: at the first byte of the formula, in its midst, and at its end
func TestPlaces(t *testing.T) {
	deep := "1"
	for range 16 {
		deep += "+1"
	}
	for _, x := range []struct {
		s     string
		from  int
		errno api.Errno
	}{
		{"=", 1, api.ErrForm}, {"= ", 2, api.ErrForm}, {"=   ", 4, api.ErrForm}, // the end
		{"=1+", 3, api.ErrForm}, {"=1+ ", 4, api.ErrForm}, {"=(1", 3, api.ErrForm}, {"=IF(1,2", 7, api.ErrForm}, {"=SUM", 4, api.ErrForm}, {"=-", 2, api.ErrForm}, {"=SUM(A1:", 8, api.ErrForm},
		{"=)", 1, api.ErrForm}, {"==", 1, api.ErrForm}, {"==1", 1, api.ErrForm}, {"=+1", 1, api.ErrForm}, {"=*", 1, api.ErrForm}, {"=,1", 1, api.ErrForm}, {"=a", 1, api.ErrForm}, {"=\x00", 1, api.ErrForm}, {"=\xff1", 1, api.ErrForm}, {"=$A1", 1, api.ErrForm}, {"=ABC", 1, api.ErrForm}, {"=A0", 1, api.ErrForm}, {"=A1B", 1, api.ErrForm}, {"=9223372036854775808", 1, api.ErrForm}, {"=#OVER", 1, api.ErrForm}, {"=A1:B2", 3, api.ErrForm},
		{"= =1", 2, api.ErrForm}, {"=  )", 3, api.ErrForm}, {"= a", 2, api.ErrForm}, {"=1 2", 3, api.ErrForm}, {"=1 a 2", 3, api.ErrForm}, {"=1 2 a", 5, api.ErrForm}, {"=1+ a", 4, api.ErrForm}, {"=1)", 2, api.ErrForm}, {"=(1))", 4, api.ErrForm}, {"=()", 2, api.ErrForm}, {"=SUM()", 5, api.ErrForm}, {"=SUM(A1:B2+1)", 10, api.ErrForm}, {"=COUNT(A1)", 9, api.ErrForm}, {"=COUNT(1)", 7, api.ErrForm}, {"=IF(1,2)", 7, api.ErrForm}, {"=IF(1,2,3,4)", 9, api.ErrForm}, {"=1+99999999999999999999", 3, api.ErrForm}, {"=1+\t2", 3, api.ErrForm}, {"=1+ü", 3, api.ErrForm}, {"=1?", 2, api.ErrForm}, {"=(A1+B1)*(C1+D1", 15, api.ErrForm},
		{"=" + deep, 1, api.ErrDeep}, {"=  " + deep + "  ", 1, api.ErrDeep}, {"=" + strings.Repeat("-", 16) + "1", 1, api.ErrDeep}, {"=" + deep + "+", 35, api.ErrForm}, {"=" + deep + " 1", 35, api.ErrForm}, {"=" + strings.Repeat(" ", 197) + "1+", 200, api.ErrForm},
	} {
		norms(t, x.s, "", x.from, x.errno)
		may(t, x.s, api.ErrArg)
		if y, is := Tree(x.s); is || !syntax.Same(y, api.Tree{}) {
			t.Errorf("%q: %v", x.s, y)
		}
	}
	says(t, "="+strings.Repeat("-", 15)+"1", "="+strings.Repeat("-", 15)+"1")
	says(t, "="+deep[2:], "="+deep[2:])
	says(t, "="+strings.Repeat("(", 60)+"1"+strings.Repeat(")", 60), "=1")
}

// P13.1: texts of 200 bytes and of 201, literals, formulas, or neither; plain ones of both lengths
func TestLong(t *testing.T) {
	some := func(s string, many int) string { return strings.Repeat(s, many) }
	for _, x := range []struct {
		s     string
		from  int
		errno api.Errno
	}{
		{some("7", 200), 0, api.ErrForm}, {some("7", 201), 0, api.ErrFull}, {some("0", 199) + "7", 0, api.ErrForm}, {some("0", 200) + "7", 0, api.ErrFull}, {"-" + some("7", 199), 0, api.ErrForm}, {"-" + some("7", 200), 0, api.ErrFull}, {"7" + some(" ", 199), 0, api.ErrForm}, {"7" + some(" ", 200), 0, api.ErrFull}, // nearly literals
		{some(" ", 200), 0, api.ErrForm}, {some(" ", 201), 0, api.ErrFull}, {some("x", 200), 0, api.ErrForm}, {some("x", 201), 0, api.ErrFull}, {some("x", 5000), 0, api.ErrFull}, // neither
		{"=" + some("?", 199), 1, api.ErrForm}, {"=" + some("?", 200), 0, api.ErrFull}, {"=" + some(" ", 198) + "?", 199, api.ErrForm}, {"=" + some(" ", 199) + "?", 0, api.ErrFull}, {"=" + some(" ", 199), 200, api.ErrForm}, {"=" + some(" ", 200), 0, api.ErrFull}, {"=" + some("7", 199), 1, api.ErrForm}, {"=" + some("7", 200), 0, api.ErrFull}, {"=" + some("=", 400), 0, api.ErrFull}, // formulas that are none
		{"=" + some("-", 198) + "1", 1, api.ErrDeep}, {"=" + some("-", 199) + "1", 0, api.ErrFull}, // too deep
		{"=" + some(" ", 199) + "7", 0, api.ErrFull}, {"=7" + some(" ", 199), 0, api.ErrFull}, {"=" + some("0", 199) + "7", 0, api.ErrFull}, {"=" + some("(", 99) + "77" + some(")", 99), 0, api.ErrFull}, // one blank, nought, bracket too many
	} {
		norms(t, x.s, "", x.from, x.errno)
		may(t, x.s, api.ErrArg)
	}
	for _, s := range []string{"=" + some(" ", 198) + "7", "=7" + some(" ", 198), "=" + some("0", 198) + "7", "=" + some("(", 99) + "7" + some(")", 99)} {
		says(t, s, "=7")
	}
	says(t, long(199), long(199))
	says(t, long(200), long(200))
	norms(t, long(201), "", 0, api.ErrFull)
	may(t, long(201), api.ErrArg)
}

// P13.1: formulas that have at most 200 bytes, whose plain texts have more: each place that is none is two bytes longer then
func TestGrown(t *testing.T) {
	for gone := 1; gone <= 60; gone++ {
		for rest := 0; rest < 12; rest++ {
			s := "=SUM(" + strings.Repeat("Q1,", gone) + strings.Repeat("1", rest+1) + ")"
			plain := "=SUM(" + strings.Repeat("#REF,", gone) + strings.Repeat("1", rest+1) + ")"
			if len(plain) <= 200 {
				says(t, s, plain)
				continue
			}
			norms(t, s, "", 0, api.ErrFull)
			may(t, s, api.ErrArg)
			may(t, plain, api.ErrArg)
		}
	}
	for _, x := range []struct {
		last string
		e    api.Errno
	}{{"1", api.OK}, {"11", api.OK}, {"111", api.OK}, {"1111", api.OK}, {"11111", api.ErrFull}, {"111111", api.ErrFull}} {
		s := "=SUM(" + strings.Repeat("Q1,", 38) + x.last + ")"
		plain, from, e := Norm(s)
		if e != x.e || from != 0 || e == api.OK && len(plain) != 196+len(x.last) || e != api.OK && plain != "" {
			t.Errorf("%q: %q %d %d", s, plain, from, e)
		}
	}
	// a tree may grow, and be none that stands in a sheet; it is one all the same
	s := "=SUM(" + strings.Repeat("Q1,", 60) + "1)"
	if x, is := Tree(s); !is || len(x.Kids) != 61 {
		t.Errorf("%v", x)
	}
}

// number tells whether a text is a number's: it is what is written of the number that it is read as.
func number(s string) bool {
	x, is := new(big.Int).SetString(s, 10)
	return is && x.IsInt64() && x.String() == s
}

// P13.1, P13.2: all texts of up to five of some bytes, of up to four of some pieces, and of up to two of any bytes behind some others: held against formulas' own texts
func TestShort(t *testing.T) {
	var single []string
	for b := range 256 {
		single = append(single, string([]byte{byte(b)}))
	}
	met := map[api.Errno]int{}
	spell(strings.Split("= 0 1 - A ( + # Q", " "), 5, func(s string) { met[short(t, s)]++ })
	spell(strings.Split("=|=1|=A1|A1|Q1| |)|(|-|#REF|:|SUM(|COUNT(|,|00|x", "|"), 4, func(s string) { met[short(t, s)]++ })
	spell(single, 2, func(s string) { short(t, s); short(t, "="+s); short(t, "=1"+s); short(t, "7"+s) })
	if len(met) != 2 || met[api.OK] < 300 || met[api.ErrForm] < 10000 {
		t.Errorf("errors: %v", met)
	}
}

// spell calls for all texts of up to so many pieces.
func spell(pieces []string, most int, each func(s string)) {
	l := []string{""}
	for range most {
		var longer []string
		for _, s := range l {
			each(s)
			for _, piece := range pieces {
				longer = append(longer, s+piece)
			}
		}
		l = longer
	}
	for _, s := range l {
		each(s)
	}
}

// short holds what is told of a short text; the error.
func short(t *testing.T, s string) api.Errno {
	t.Helper()
	plain, from, errno := "", 0, api.ErrForm
	var tree api.Tree
	formula := false
	switch {
	case strings.HasPrefix(s, "="):
		tree, from, errno = syntax.Parse(s[1:])
		if formula = errno == api.OK; formula {
			plain, from = "="+syntax.Print(tree), -1
		}
		from++
	case number(s):
		plain, errno = s, api.OK
	}
	norms(t, s, plain, from, errno)
	if x, is := Tree(s); is != formula || !syntax.Same(x, tree) {
		t.Fatalf("%q: %v %v", s, x, is)
	}
	l, e := Sheet(api.Source{Text: s})
	if (e == api.OK) != (errno == api.OK && plain == s) || len(l) != 0 && (e != api.OK || l[0].Text != s) || e != api.OK && e != api.ErrArg {
		t.Fatalf("%q: %v %d", s, l, e)
	}
	if errno == api.OK {
		norms(t, plain, plain, 0, api.OK)
	}
	return errno
}

// P13.1: Tree, of formulas that are plain, and that are not; of texts that are none's
func TestTree(t *testing.T) {
	for s, formula := range map[string]string{"=A1": "A1", "= A1": "A1", "=((1))": "1", "=007": "7", "=Q1": "#REF", "=SUM( B2:A1 )": "SUM(A1:B2)", "=(1+2)*3": "(1+2)*3", "=-7": "-7", "=IF(A1,1,1/0)": "IF(A1,1,1/0)", "=1=1": "1=1"} {
		want, _, _ := syntax.Parse(formula)
		if x, is := Tree(s); !is || !syntax.Same(x, want) {
			t.Errorf("%q: %v %v", s, x, is)
		}
	}
	for _, s := range []string{"", "7", "-7", "A1", " =A1", "A1=", "SUM(A1:B2)", "x", "=", "= ", "==", "==1", "=1+", "=a", "=1 2", "=SUM(A1:B2+1)", "=" + strings.Repeat("-", 16) + "1", "=" + strings.Repeat(" ", 200) + "1", "=" + strings.Repeat("x", 9000)} {
		if x, is := Tree(s); is || !syntax.Same(x, api.Tree{}) {
			t.Errorf("%q: %v %v", s, x, is)
		}
	}
	// a formula may have 200 bytes, even where the = makes its text one too many
	s := "=" + strings.Repeat(" ", 199) + "7"
	if x, is := Tree(s); !is || x.Num != 7 {
		t.Errorf("%v %v", x, is)
	}
}

// P13.1: no sources at all, one, some in all orders, the first and the last place, and all
func TestSheet(t *testing.T) {
	for _, l := range [][]api.Source{nil, {}} {
		s, e := Sheet(l...)
		v, f := Values(l...)
		if len(s) != 0 || e != api.OK || len(v) != 0 || f != api.OK || len(Links(l...)) != 0 {
			t.Errorf("none: %v %d %v %d", s, e, v, f)
		}
	}
	r := rand.New(rand.NewPCG(13, 2))
	var all []api.Source
	for i := range 1024 {
		all = append(all, api.Source{At: spot(i), Text: []string{fmt.Sprint(-i), "=" + fmt.Sprint(i), "=A1", "7"}[i%4]})
	}
	for _, l := range [][]api.Source{sources("A1", "7"), sources("P64", "=A1"), sources("C9", "=C9"), sources("A1", "1", "P64", "=1"), sources("A1", "1", "A2", "2", "B1", "=A2", "P1", "3", "A64", "=P64", "P64", "-4", "J10", "5", "B2", "=#REF"), all} {
		var links []graph.Links
		for _, m := range orders(r, l) {
			ahead := slices.Clone(m)
			s, e := Sheet(m...)
			if e != api.OK || !slices.Equal(s, rising(l)) || !slices.Equal(m, ahead) {
				t.Fatalf("%v: %v %d", m, s, e)
			}
			v, e := Values(m...)
			if e != api.OK || !slices.EqualFunc(v, s, func(c api.Cell, x api.Source) bool { return c.At == x.At }) {
				t.Fatalf("%v: %v %d", m, v, e)
			}
			links = Links(m...)
			if !slices.EqualFunc(links, m, func(x graph.Links, y api.Source) bool { return x.At == index(y.At) }) {
				t.Fatalf("%v: %v", m, links)
			}
			again, e := Sheet(s...)
			if e != api.OK || !slices.Equal(again, s) {
				t.Fatalf("%v: %v %d", s, again, e)
			}
		}
	}
}

// P13.1: places that may not be, texts that are not plain, two at one place, and more than one of these
func TestErrors(t *testing.T) {
	for _, p := range []api.Place{at(-1, 0), at(0, -1), at(16, 0), at(0, 64), at(-16, 1), at(17, -1), at(32, -2), at(1<<32, 0), at(0, 1<<32), at(most, most), at(least, least), at(1024, 0), at(least, 1)} {
		x := api.Source{At: p, Text: "7"}
		lacks(t, api.ErrArg, x)
		lacks(t, api.ErrArg, api.Source{At: p, Text: "=A1"})
		lacks(t, api.ErrArg, api.Source{At: p, Text: "x"})
		lacks(t, api.ErrArg, x, x)
		lacks(t, api.ErrArg, append(sources("A1", "1", "B1", "2"), x)...)
		lacks(t, api.ErrArg, append([]api.Source{x}, sources("A1", "1", "A1", "2")...)...)
		lacks(t, api.ErrArg, append(sources("A1", "1", "A1", "2"), x)...)
	}
	for _, s := range []string{"", "x", "07", "= A1", "=A1 ", "=(A1)", "=Q1", "=01", "=SUM(B1:A1)", "=1+", "=", "A1", long(201), long(202)} {
		may(t, s, api.ErrArg)
		lacks(t, api.ErrArg, sources("A1", s, "A1", s)...)
		lacks(t, api.ErrArg, sources("A1", "1", "A1", "1", "B1", s)...)
		lacks(t, api.ErrArg, sources("B1", s, "A1", "1", "A1", "1")...)
		lacks(t, api.ErrArg, sources("A1", "1", "B1", s, "A1", "1")...)
		lacks(t, api.ErrArg, sources("A1", "1", "A1", s)...)
		lacks(t, api.ErrArg, sources("A1", s, "A1", "=1")...)
	}
	for _, l := range [][]string{
		{"A1", "1", "A1", "1"}, {"A1", "1", "A1", "2"}, {"A1", "=1", "A1", "1"}, {"A1", "1", "A1", "=1"}, {"A1", "=A1", "A1", "=A1"}, {"P64", "1", "P64", "=A1"}, {"A1", "1", "B1", "2", "A1", "3"}, {"B1", "1", "A1", "2", "A1", "3"}, {"A1", "1", "A1", "2", "A1", "3"}, {"A1", "1", "B1", "1", "A1", "1", "B1", "1"},
	} {
		lacks(t, api.ErrTwice, sources(l...)...)
	}
	var all []api.Source
	for i := range 1024 {
		all = append(all, api.Source{At: spot(i), Text: "1"})
	}
	for _, i := range []int{0, 1, 512, 1023} {
		lacks(t, api.ErrTwice, append(slices.Clone(all), all[i])...)
		lacks(t, api.ErrTwice, append(slices.Clone(all[i:i+1]), all...)...)
		lacks(t, api.ErrArg, append(append(slices.Clone(all), all[i]), api.Source{At: at(0, 64), Text: "1"})...)
		wrong := slices.Clone(all)
		wrong[i].Text = "=(1)"
		lacks(t, api.ErrArg, wrong...)
	}
}

// P13.1: what is read: nothing by a literal and by a formula that reads nothing; a cell twice, a range, itself, a cell that the sheet doesn't have
func TestLinks(t *testing.T) {
	a := source("C3", "7")
	for s, want := range map[string][]int{
		"7": nil, "-7": nil, "0": nil, "=7": nil, "=1+2*3": nil, "=#REF": nil, "=SUM(1,#REF)": nil, "=COUNT(#REF)": nil, "=IF(1,2,3)": nil,
		"=A1": {0}, "=P64": {1023}, "=B1": {1}, "=A2": {16}, "=C3": {34}, "=-A1": {0}, "=A1+A1": {0}, "=A1*A1-A1": {0}, "=B1+A1": {0, 1}, "=A2+B1": {1, 16}, "=P64-A1": {0, 1023},
		"=SUM(A1:B2)": {0, 1, 16, 17}, "=SUM(A1:A1)": {0}, "=SUM(B2:C3,B2,A1)": {0, 17, 18, 33, 34}, "=SUM(A1:B2,B1:C2)": {0, 1, 2, 16, 17, 18}, "=COUNT(P63:P64,A1:A2)": {0, 16, 1007, 1023}, "=IF(P1,O1,N1)": {13, 14, 15}, "=IF(1,A1,1/0)+#REF": {0}, "=MAX(A4,MIN(A3,SUM(A2:A2)))": {16, 32, 48}, "=COUNT(A1:P1)": count(0, 16), "=COUNT(A1:P64)": count(0, 1024),
		"=D4": {51}, "=D4+D4-A1": {0, 51}, "=SUM(C3:E5)": {34, 35, 36, 50, 51, 52, 66, 67, 68}, // itself
	} {
		x := source("D4", s)
		reads(t, want, x)
		reads(t, want, a, x)
		reads(t, want, source("A1", "=D4"), source("P64", "=A1"), x)
	}
	// in the order in which the sources come
	l := sources("P64", "=A1", "A1", "7", "B9", "=P64+A1", "A2", "=COUNT(A1:B2)", "B2", "=9")
	links := []graph.Links{{At: 1023, Reads: []int{0}}, {At: 0}, {At: 129, Reads: []int{0, 1023}}, {At: 16, Reads: []int{0, 1, 16, 17}}, {At: 17}}
	for range 24 {
		if x := Links(l...); !alike(x, links) {
			t.Errorf("%v: %v", l, x)
		}
		l, links = append(l[1:], l[0]), append(links[1:], links[0])
	}
}

// count are the numbers from one to another one, that stands behind them.
func count(from, to int) []int {
	var l []int
	for n := from; n < to; n++ {
		l = append(l, n)
	}
	return l
}

// P13.1: values: on cycles, beside cycles, of places that are empty, faults, and cells that read them
func TestValues(t *testing.T) {
	cycle, over, div, ref := f(api.Cycle), f(api.Over), f(api.Div), f(api.Ref)
	comes(t, nil)
	comes(t, sources("A1", "7"), n(7))
	comes(t, sources("A1", "-9223372036854775808", "P64", "9223372036854775807"), n(least), n(most))
	comes(t, sources("A1", "=7"), n(7))
	comes(t, sources("A1", "=A1"), cycle) // on a cycle of one, of two, of many
	comes(t, sources("P64", "=P64+1"), cycle)
	comes(t, sources("A1", "=B1", "B1", "=A1"), cycle, cycle)
	comes(t, sources("A1", "=B1+1", "B1", "=C1+1", "C1", "=D1+1", "D1", "=A1+1"), cycle, cycle, cycle, cycle)
	comes(t, sources("A1", "=IF(0,A1,5)"), cycle) // by what is read, if not taken, too
	comes(t, sources("A1", "=IF(1,5,B1)", "B1", "=A1"), cycle, cycle)
	comes(t, sources("A1", "=A1*0"), cycle)
	comes(t, sources("A1", "=#REF+A1", "B1", "=1/0+B1"), cycle, cycle) // ahead of other faults
	comes(t, sources("A1", "=SUM(A1:C1)", "B1", "1"), cycle, n(1))     // a range that holds the cell itself
	comes(t, sources("A1", "1", "B1", "=COUNT(A1:C1)", "C1", "=COUNT(A1:A1)"), n(1), cycle, n(1))
	comes(t, sources("J10", "=COUNT(A1:P64)"), cycle)
	comes(t, sources("A1", "=MAX(B1:B2)", "B2", "=A1"), cycle, cycle)
	comes(t, sources("A1", "=B1", "B1", "=B1", "C1", "=A1+1", "D1", "=C1"), cycle, cycle, cycle, cycle) // reads one on a cycle
	comes(t, sources("A1", "=IF(1,7,B1)", "B1", "=B1"), n(7), cycle)
	comes(t, sources("A1", "=IF(0,7,B1)", "B1", "=B1"), cycle, cycle)
	comes(t, sources("A1", "=COUNT(B1:C1)", "B1", "=C1", "C1", "=B1"), n(2), cycle, cycle)
	comes(t, sources("A1", "=1/0+B1", "B1", "=B1", "C1", "=B1+1/0"), div, cycle, cycle)
	comes(t, sources("A1", "5", "B1", "=A1+B1", "C1", "=A1*2", "D1", "=D1+C1"), n(5), cycle, n(10), cycle) // one that a cycle reads
	comes(t, sources("A1", "=B1+C1", "B1", "=A1", "C1", "=D1*2", "D1", "4"), cycle, cycle, n(8), n(4))
	comes(t, sources("A1", "=B1", "B1", "=A1+C1", "C1", "=D1", "D1", "=C1"), cycle, cycle, cycle, cycle) // one cycle reads another one
	comes(t, sources("A1", "=B1", "B1", "=A1", "C1", "=A1+D1", "D1", "=E1", "E1", "=D1"), cycle, cycle, cycle, cycle, cycle)
	comes(t, sources("A1", "=B1"), n(0)) // what the sheet doesn't have
	comes(t, sources("A1", "=B1+P64", "B2", "=A1+1"), n(0), n(1))
	comes(t, sources("A1", "=COUNT(B1:P64)", "A2", "=MIN(B1:P64)", "A3", "=MAX(B1:P64,-4)", "A4", "=SUM(B1:P64)"), n(0), n(0), n(-4), n(0))
	comes(t, sources("A1", "=1/B1", "C1", "=A1"), div, div)
	comes(t, sources("A1", "0", "B1", "=COUNT(A1:A2)", "C1", "=MIN(A2:A3,5)"), n(0), n(1), n(5))
	comes(t, sources("A1", "9223372036854775807", "B1", "=A1+1", "C1", "=-B1", "D1", "=IF(B1,1,2)", "E1", "=COUNT(A1:C1)", "F1", "=SUM(A1:B1)"), n(most), over, over, over, n(3), over) // each fault, and cells that read it
	comes(t, sources("A1", "=-9223372036854775807-1", "B1", "=-A1", "C1", "=A1/-1", "D1", "=A1*A1", "E1", "=A1-1+1"), n(least), over, over, over, over)
	comes(t, sources("A1", "=7/0", "B1", "=A1*0", "C1", "=IF(0,A1,3)", "D1", "=MIN(1,A1)", "E1", "=A1=A1"), div, div, n(3), div, div)
	comes(t, sources("A1", "=#REF", "B1", "=A1", "C1", "=SUM(#REF,B1)", "D1", "=COUNT(#REF)", "E1", "=IF(#REF,1,2)", "F1", "=COUNT(A1:B1)"), ref, ref, ref, ref, ref, n(2))
	comes(t, sources("A1", "=A1", "B1", "=1/0", "C1", "=#REF", "D1", "=9223372036854775807+1", "E1", "=A1+B1", "F1", "=C1+A1", "G1", "=D1+C1", "H1", "=MAX(B1:D1)", "I1", "=SUM(5,C1,A1)"), cycle, div, ref, over, cycle, ref, over, div, ref)
	comes(t, sources("A1", "2", "B1", "=A1*A1", "C1", "=B1*B1", "D1", "=C1*C1", "E1", "=D1*D1", "F1", "=E1*E1", "G1", "=F1*F1"), n(2), n(4), n(16), n(256), n(65536), n(1<<32), over)
	comes(t, sources("A1", "21", "B1", "=C1", "C1", "=B1+A2", "D1", "=IF(A2>41,A2,B1)", "E1", "=E1", "F1", "=C1+1", "G1", "=COUNT(A1:C1)/H1", "A2", "=A1*2"), n(21), cycle, cycle, n(42), cycle, cycle, div, n(42))
	comes(t, sources("A1", "=-7/2", "B1", "=A1<-2", "C1", "=1-2-3", "D1", "=1-(2-3)", "E1", "=IF(B1,C1,D1)"), n(-3), n(1), n(-4), n(2), n(-4))
	comes(t, sources("A1", "3", "C1", "-8", "B1", "=SUM(A1:A2,C1:D1,A1)", "D2", "=MIN(A1:C1)", "E2", "=MAX(A1:C1)"), n(3), n(-8), n(-2), n(-8), n(3))
}

// along is a sheet of 1024 cells, each of which reads the one that is so much on, and adds 1.
func along(on int) []api.Source {
	var l []api.Source
	for i := range 1024 {
		s := "7"
		if i+on >= 0 && i+on < 1024 {
			s = "=" + named(spot(i+on)) + "+1"
		}
		l = append(l, api.Source{At: spot(i), Text: s})
	}
	return l
}

// P13.1: a line of all 1024 cells, either way, and a ring of them
func TestLine(t *testing.T) {
	r := rand.New(rand.NewPCG(13, 3))
	for _, on := range []int{1, -1} {
		l := along(on)
		round := slices.Clone(l)
		for i := range l {
			if !strings.HasPrefix(l[i].Text, "=") {
				round[i].Text = "=" + named(spot((i+on+1024)%1024))
			}
		}
		cut := slices.Clone(round)
		cut[500].Text = "-500"
		for _, sheet := range [][]api.Source{l, round, cut} {
			for _, m := range orders(r, sheet) {
				v, e := Values(m...)
				if e != api.OK || len(v) != 1024 {
					t.Fatalf("%d cells, %d", len(v), e)
				}
				for i, c := range v {
					if want := lined(sheet, on, i); c != (api.Cell{At: spot(i), Value: want}) {
						t.Fatalf("%d of a line by %d: %v, want %v", i, on, c, want)
					}
				}
			}
		}
	}
}

// lined is the value of a cell of such a line: by how far it is to the literal.
func lined(l []api.Source, on, i int) api.Value {
	for far := 0; far < 1024; far++ {
		switch x := l[((i+far*on)%1024+1024)%1024]; {
		case x.Text == "7":
			return n(7 + far)
		case x.Text == "-500":
			// what joins the ends adds nothing
			last := 1023
			if on < 0 {
				last = 0
			}
			if (last-i)*on < far {
				far--
			}
			return n(-500 + far)
		}
	}
	return f(api.Cycle)
}

// P13.1: sheets in which all cells read all others, all lesser ones, and all greater ones
func TestAll(t *testing.T) {
	var all, lesser []api.Source
	for i := range 1024 {
		p := spot(i)
		all = append(all, api.Source{At: p, Text: "=SUM(A1:P64)"})
		s := "=1"
		switch {
		case p.Row > 0 && p.Col > 0:
			s = fmt.Sprintf("=MAX(A1:P%d,A%d:%s)+1", p.Row, p.Row+1, named(at(p.Col-1, p.Row)))
		case p.Row > 0:
			s = fmt.Sprintf("=MAX(A1:P%d)+1", p.Row)
		case p.Col > 0:
			s = fmt.Sprintf("=MAX(A1:%s)+1", named(at(p.Col-1, 0)))
		}
		lesser = append(lesser, api.Source{At: p, Text: s})
	}
	r := rand.New(rand.NewPCG(13, 4))
	for _, m := range orders(r, all) {
		v, e := Values(m...)
		if e != api.OK || len(v) != 1024 || slices.ContainsFunc(v, func(c api.Cell) bool { return c.Value != f(api.Cycle) }) {
			t.Fatalf("all: %v %d", v, e)
		}
	}
	for _, m := range orders(r, lesser) {
		v, e := Values(m...)
		if e != api.OK || len(v) != 1024 {
			t.Fatalf("lesser: %d", e)
		}
		for i, c := range v {
			if c != (api.Cell{At: spot(i), Value: n(i + 1)}) {
				t.Fatalf("lesser: %d: %v", i, c)
			}
		}
		for i, x := range Links(rising(m)...) {
			if x.At != i || !slices.Equal(x.Reads, count(0, i)) {
				t.Fatalf("lesser: %v", x)
			}
		}
	}
}

// holds holds all that is told of a sheet against its table; and P13.2 of it.
func holds(t *testing.T, r *rand.Rand, l []cell) map[api.Fault]int {
	t.Helper()
	var given []api.Source
	var links []graph.Links
	for _, c := range l {
		given = append(given, api.Source{At: c.at, Text: c.text()})
		x := graph.Links{At: index(c.at)}
		if c.part != nil {
			for _, p := range c.part.reads {
				x.Reads = append(x.Reads, index(p))
			}
		}
		slices.Sort(x.Reads)
		x.Reads = slices.Compact(x.Reads)
		links = append(links, x)
	}
	if is := Links(given...); !alike(is, links) {
		t.Fatalf("%v: %v, want %v", given, is, links)
	}
	table := tabled(l)
	want := table.values()
	for _, m := range [][]api.Source{given, rising(given), shuffled(r, given)} {
		if s, e := Sheet(m...); e != api.OK || !slices.Equal(s, rising(given)) {
			t.Fatalf("%v: %v %d", m, s, e)
		}
		if v, e := Values(m...); e != api.OK || !slices.Equal(v, want) {
			t.Fatalf("%v: %v %d, want %v", m, v, e, want)
		}
	}
	met := map[api.Fault]int{}
	for _, c := range want {
		met[c.Value.Fault]++
	}
	coming(t, table, given, want)
	return met
}

// coming holds that plain texts are their own, and that cells on no cycle have the values that their trees come to, by all values.
func coming(t *testing.T, table *table, given []api.Source, all []api.Cell) {
	t.Helper()
	for _, s := range given {
		norms(t, s.Text, s.Text, 0, api.OK)
		i := slices.IndexFunc(all, func(c api.Cell) bool { return c.At == s.At })
		x, is := Tree(s.Text)
		switch {
		case !is:
			if fmt.Sprint(all[i].Value.Num) != s.Text || all[i].Value.Fault != api.Fine {
				t.Fatalf("%v: %v", s, all[i])
			}
		case table.leads[index(s.At)][index(s.At)]:
			if all[i].Value != f(api.Cycle) {
				t.Fatalf("%v, on a cycle: %v", s, all[i])
			}
		default:
			if v := eval.Of(x, all...); v != all[i].Value {
				t.Fatalf("%v: %v, want %v", s, all[i], v)
			}
		}
	}
}

// sheeted are so many cells at random among these places, of which of ten some are formulas, of some depth.
func sheeted(m maker, r *rand.Rand, many, formulas, depth int) []cell {
	var l []cell
	for _, i := range r.Perm(len(m.places))[:many] {
		c := cell{at: m.places[i], number: []int{0, 1, 2, 5, -3, -1, 1 << 40, most, least, r.IntN(100)}[r.IntN(10)]}
		for r.IntN(10) < formulas {
			x := m.part(1 + r.IntN(depth))
			if len(x.plain) < 200 && x.deep <= 16 {
				c.part = &x
				break
			}
		}
		l = append(l, c)
	}
	return l
}

// places are some, at random.
func places(r *rand.Rand, many int) []api.Place {
	var l []api.Place
	for _, i := range r.Perm(1024)[:many] {
		l = append(l, spot(i))
	}
	return l
}

// corner are the places of a small range.
func corner(cols, rows int) []api.Place {
	var l []api.Place
	for row := range rows {
		for col := range cols {
			l = append(l, at(col, row))
		}
	}
	return l
}

// P13.2: sheets at random, with few cells and with many, with cycles and without
func TestRandom(t *testing.T) {
	r := rand.New(rand.NewPCG(13, 5))
	met := map[api.Fault]int{}
	for _, x := range []struct{ times, cols, rows, many, formulas, depth int }{
		{500, 2, 1, 2, 7, 2}, {500, 2, 2, 3, 8, 3}, {500, 3, 3, 6, 5, 2}, {500, 3, 3, 6, 8, 3}, {300, 5, 5, 12, 5, 3}, {200, 5, 6, 30, 7, 2}, {60, 10, 10, 40, 5, 4}, {20, 16, 16, 200, 3, 2}, {10, 16, 64, 300, 4, 1}, {3, 16, 64, 1024, 2, 1}, {2, 16, 64, 1024, 6, 2},
	} {
		for range x.times {
			m := maker{r: r, places: corner(x.cols, x.rows)}
			for fault, times := range holds(t, r, sheeted(m, r, x.many, x.formulas, x.depth)) {
				met[fault] += times
			}
		}
	}
	for range 300 {
		m := maker{r: r, places: places(r, 12)}
		holds(t, r, sheeted(m, r, 8, 6, 3))
	}
	if len(met) != 5 || slices.Min([]int{met[0], met[1], met[2], met[3], met[4]}) < 100 {
		t.Errorf("faults: %v", met)
	}
}

// P13.2: sheets at random without cycles, but for some: cells read those ahead of them, in an order that nobody tells
func TestLayers(t *testing.T) {
	r := rand.New(rand.NewPCG(13, 6))
	met := map[api.Fault]int{}
	for range 600 {
		l := places(r, 20)
		var cells []cell
		for i, p := range l {
			c := cell{at: p, number: r.IntN(20) - 10}
			if i > 3 && r.IntN(4) > 0 {
				m := maker{r: r, places: l[max(0, i-6):i]}
				if r.IntN(80) == 0 {
					m.places = l[i:]
				}
				// no Spans: they would have what comes later
				x := m.part(1 + r.IntN(4))
				if len(x.plain) < 200 && !strings.Contains(x.plain, ":") {
					c.part = &x
				}
			}
			if r.IntN(12) > 0 {
				cells = append(cells, c)
			}
		}
		for fault, times := range holds(t, r, shuffled(r, cells)) {
			met[fault] += times
		}
	}
	if len(met) != 5 || slices.Min([]int{met[0], met[1], met[2], met[3], met[4]}) < 20 {
		t.Errorf("faults: %v", met)
	}
}

// P13.1, P13.2: formulas at random, of all depths, with blanks, brackets and noughts that nobody needs
func TestLoose(t *testing.T) {
	r := rand.New(rand.NewPCG(13, 7))
	met := map[api.Errno]int{}
	for i := range 8000 {
		m := maker{r: r, places: corner(16, 64), loose: i % 8}
		x := m.part(1 + r.IntN(3+i%9))
		if r.IntN(4) == 0 {
			for range r.IntN(18) {
				x = m.minus(x)
			}
		}
		plain, loose := "="+x.plain, "="+x.loose
		e := api.OK
		switch {
		case len(loose) > 200:
			e = api.ErrFull
		case x.deep > 16:
			e = api.ErrDeep
		case len(plain) > 200:
			e = api.ErrFull
		}
		met[e]++
		switch e {
		case api.OK:
			says(t, loose, plain)
		case api.ErrDeep:
			norms(t, loose, "", 1, e)
			may(t, loose, api.ErrArg)
		default:
			norms(t, loose, "", 0, e)
			may(t, loose, api.ErrArg)
		}
	}
	if met[api.OK] < 3000 || met[api.ErrFull] < 200 || met[api.ErrDeep] < 50 {
		t.Errorf("errors: %v", met)
	}
}

// P13.1: formulas at random in which something is changed: errors are 5's, one byte on
func TestBent(t *testing.T) {
	r := rand.New(rand.NewPCG(13, 8))
	met := map[api.Errno]int{}
	for range 20000 {
		m := maker{r: r, places: corner(16, 64), loose: r.IntN(4)}
		s := []byte("=" + m.part(1+r.IntN(4)).loose)
		i := r.IntN(len(s))
		switch r.IntN(3) {
		case 0:
			s[i] = "=+)(,:A1 ?-0Q#"[r.IntN(14)]
		case 1:
			s = slices.Delete(s, i, i+1)
		default:
			s = slices.Insert(s, i, "=+)(,:A1 ?-0Q#"[r.IntN(14)])
		}
		if len(s) > 150 {
			continue
		}
		met[short(t, string(s))]++
	}
	if met[api.OK] < 1000 || met[api.ErrForm] < 5000 {
		t.Errorf("errors: %v", met)
	}
}

// Rule 4: sources that are changed behind a call change no answer, and no answer shares memory with another one, or with what was handed in
func TestOwned(t *testing.T) {
	l := sources("B2", "=SUM(A1:B1)", "A1", "5", "B1", "=A1*2", "C1", "=C1", "D1", "=E1")
	sheet, _ := Sheet(l...)
	links := Links(l...)
	v, _ := Values(l...)
	holds := func() {
		t.Helper()
		if !slices.Equal(sheet, sources("A1", "5", "B1", "=A1*2", "C1", "=C1", "D1", "=E1", "B2", "=SUM(A1:B1)")) {
			t.Errorf("Sheet: %v", sheet)
		}
		if !alike(links, []graph.Links{{At: 17, Reads: []int{0, 1}}, {At: 0}, {At: 1, Reads: []int{0}}, {At: 2, Reads: []int{2}}, {At: 3, Reads: []int{4}}}) {
			t.Errorf("Links: %v", links)
		}
		if fmt.Sprint(v) != "[{{0 0} {5 0}} {{1 0} {10 0}} {{2 0} {0 4}} {{3 0} {0 0}} {{1 1} {15 0}}]" {
			t.Errorf("Values: %v", v)
		}
	}
	holds()
	for _, m := range [][]api.Source{rising(l), l} {
		a, _ := Sheet(m...)
		b := Links(m...)
		c, _ := Values(m...)
		x, _ := Tree("=SUM(A1:B1)")
		x.Kids[0] = api.Tree{}
		for i := range m {
			a[i], m[i], c[i] = source("P9", "x"), source("P9", "y"), api.Cell{}
			for j := range b[i].Reads {
				b[i].Reads[j] = 9
			}
			b[i].At = 7
			_ = append(b[i].Reads, 5)
		}
		holds()
		if x, _ := Tree("=SUM(A1:B1)"); x.Kids[0].Kind != api.Span {
			t.Errorf("%v", x)
		}
	}
	l = sources("B2", "=SUM(A1:B1)", "A1", "5", "B1", "=A1*2", "C1", "=C1", "D1", "=E1")
	sheet, _ = Sheet(l...)
	links = Links(l...)
	v, _ = Values(l...)
	holds()
}

// Rule 4: what lies behind a list's length is neither read nor written
func TestBehind(t *testing.T) {
	l := sources("B1", "=A1", "A1", "5", "A1", "x", "B1", "7")
	for range 2 {
		if s, e := Sheet(l[:2]...); e != api.OK || !slices.Equal(s, sources("A1", "5", "B1", "=A1")) {
			t.Errorf("%v %d", s, e)
		}
		if v, e := Values(l[:2]...); e != api.OK || len(v) != 2 || v[1].Value != n(5) {
			t.Errorf("%v %d", v, e)
		}
		if x := Links(l[:2]...); len(x) != 2 || x[0].At != 1 || x[1].At != 0 {
			t.Errorf("%v", x)
		}
		if !slices.Equal(l, sources("B1", "=A1", "A1", "5", "A1", "x", "B1", "7")) {
			t.Errorf("%v", l)
		}
	}
}

// P2: what was asked ahead changes no answer
func TestAgain(t *testing.T) {
	ask := func() string {
		var b strings.Builder
		for _, l := range [][]api.Source{nil, sources("A1", "5", "B1", "=A1+C1"), sources("C1", "=C1", "A1", "=C1"), sources("A1", "=Q1"), sources("A1", "1", "A1", "2"), along(1), along(-1)} {
			s, e := Sheet(l...)
			v, f := Values(l...)
			fmt.Fprint(&b, s, e, v, f, Links(l...))
		}
		for _, s := range []string{"", "7", "= Q1", "=1+", "=A1"} {
			plain, from, e := Norm(s)
			x, is := Tree(s)
			fmt.Fprint(&b, plain, from, e, x, is)
		}
		return b.String()
	}
	first := ask()
	r := rand.New(rand.NewPCG(13, 9))
	for range 50 {
		holds(t, r, sheeted(maker{r: r, places: corner(4, 4)}, r, 10, 6, 3))
		lacks(t, api.ErrTwice, sources("C1", "=9", "C1", "=A1")...)
	}
	if again := ask(); again != first {
		t.Errorf("%s, then %s", first, again)
	}
}

// P1: sources without end, and texts without end
func TestMany(t *testing.T) {
	var l []api.Source
	for i := range 100000 {
		l = append(l, api.Source{At: spot(i % 1024), Text: "=A1"})
	}
	lacks(t, api.ErrTwice, l...)
	l[99999].Text = "= A1"
	lacks(t, api.ErrArg, l...)
	for _, b := range []string{"=", "7", "-", " ", "(", "x", "="} {
		s := strings.Repeat(b, 1<<22)
		norms(t, s, "", 0, api.ErrFull)
		norms(t, "="+s, "", 0, api.ErrFull)
		lacks(t, api.ErrArg, api.Source{Text: s})
		lacks(t, api.ErrArg, api.Source{Text: "=" + s})
		if x, is := Tree("=" + s); is || x.Kind != 0 || len(x.Kids) != 0 {
			t.Errorf("%v", x)
		}
	}
}
