package place

import (
	"fmt"
	"math/big"
	"math/rand/v2"
	"regexp"
	"strings"
	"testing"

	"gridiron/api"
)

const (
	most  = 1<<63 - 1
	least = -1 << 63
)

func at(col, row int) api.Place { return api.Place{Col: col, Row: row} }

func from(a, b, c, d int) api.Range { return api.Range{From: at(a, b), To: at(c, d)} }

// wild are numbers at which something could wrap round, or be rounded, and those about the edges of the sheet.
func wild() []int {
	l := []int{0, 1, 2, 7, 14, 15, 16, 17, 31, 62, 63, 64, 65, 1023, 1024}
	for _, shift := range []int{8, 16, 31, 32, 52, 53, 54, 60, 61, 62} {
		l = append(l, 1<<shift, 1<<shift-1, 1<<shift+1, 1<<shift+15, 1<<shift-16)
	}
	for _, n := range l {
		l = append(l, -n)
	}
	return append(l, most, most-1, most-15, most-63, least, least+1, least+15, least+63)
}

// wrong are places that may not be.
func wrong() []api.Place {
	var l []api.Place
	for _, n := range wild() {
		for _, m := range wild() {
			if n < 0 || n > 15 || m < 0 || m > 63 {
				l = append(l, at(n, m))
			}
		}
	}
	return l
}

// all goes through all places, by their indexes.
func all(yield func(p api.Place) bool) {
	for row := range 64 {
		for col := range 16 {
			if !yield(at(col, row)) {
				return
			}
		}
	}
}

// written is a place's text, as the document tells it.
func written(p api.Place) string { return fmt.Sprintf("%c%d", "ABCDEFGHIJKLMNOP"[p.Col], p.Row+1) }

// P2.1, P1: Right, Text, Index of all places, and of those that may not be
func TestRight(t *testing.T) {
	i := 0
	for p := range all {
		if !Right(p) || Text(p) != written(p) || Index(p) != i {
			t.Errorf("%v: %t %q %d", p, Right(p), Text(p), Index(p))
		}
		i++
	}
	for _, p := range wrong() {
		if Right(p) || Text(p) != "" || Index(p) != -1 {
			t.Errorf("%v: %t %q %d", p, Right(p), Text(p), Index(p))
		}
	}
}

// P2.1, P1: texts and indexes that the document names
func TestNamed(t *testing.T) {
	for _, x := range []struct {
		text  string
		p     api.Place
		index int
	}{{"A1", at(0, 0), 0}, {"P1", at(15, 0), 15}, {"A2", at(0, 1), 16}, {"D3", at(3, 2), 35}, {"J9", at(9, 8), 137}, {"J10", at(9, 9), 153}, {"A64", at(0, 63), 1008}, {"P64", at(15, 63), 1023}} {
		p, e := Parse(x.text)
		q, ok := At(x.index)
		if p != x.p || e != api.OK || q != x.p || !ok || Text(x.p) != x.text || Index(x.p) != x.index {
			t.Errorf("%s: %v %d %v %t %q %d", x.text, p, e, q, ok, Text(x.p), Index(x.p))
		}
	}
}

// P2.1, P1: texts that are no place's
func TestParseNone(t *testing.T) {
	for s, want := range map[string]api.Errno{
		"Q1": api.ErrNone, "Z1": api.ErrNone, "Q64": api.ErrNone, "A65": api.ErrNone, "P65": api.ErrNone, "A100": api.ErrNone, "P641": api.ErrNone, "Z999": api.ErrNone, "A999": api.ErrNone, "A256": api.ErrNone, "A257": api.ErrNone,
		"": api.ErrForm, "A": api.ErrForm, "1": api.ErrForm, "11": api.ErrForm, "1A": api.ErrForm, "A0": api.ErrForm, "A00": api.ErrForm, "A01": api.ErrForm, "A064": api.ErrForm, "Q0": api.ErrForm, "A1000": api.ErrForm, "A1024": api.ErrForm, "Z9999": api.ErrForm,
		"AA1": api.ErrForm, "AA": api.ErrForm, "A1A": api.ErrForm, "a1": api.ErrForm, "p64": api.ErrForm, "@1": api.ErrForm, "[1": api.ErrForm, "A1 ": api.ErrForm, " A1": api.ErrForm, "A 1": api.ErrForm, "A1\n": api.ErrForm, "A1\x00": api.ErrForm, "\x00A1": api.ErrForm,
		"A-1": api.ErrForm, "A+1": api.ErrForm, "A1.": api.ErrForm, "A1_": api.ErrForm, "A_1": api.ErrForm, "A1/": api.ErrForm, "A1:": api.ErrForm, "A/": api.ErrForm, "A:": api.ErrForm, "$A1": api.ErrForm, "A$1": api.ErrForm, "0x1": api.ErrForm, "A1:B": api.ErrForm,
		"A\xff": api.ErrForm, "\xff1": api.ErrForm, "\u00c41": api.ErrForm, "A\u0661": api.ErrForm, "A1\u0661": api.ErrForm, "\uff211": api.ErrForm, "A\uff11": api.ErrForm, "#REF": api.ErrForm,
		"A" + strings.Repeat("1", 100000): api.ErrForm, "A" + strings.Repeat("0", 5000) + "1": api.ErrForm, strings.Repeat("A", 5000) + "1": api.ErrForm, "A18446744073709551617": api.ErrForm,
	} {
		if p, e := Parse(s); p != (api.Place{}) || e != want {
			t.Errorf("%.40q: %v %d, want %d", s, p, e, want)
		}
	}
}

// judge holds what is parsed of a text against its form, and against all places' texts.
func judge(t *testing.T, form *regexp.Regexp, texts map[string]api.Place, s string) {
	t.Helper()
	want, is := texts[s]
	e := api.OK
	if !form.MatchString(s) {
		e = api.ErrForm
	} else if !is {
		e = api.ErrNone
	}
	if p, f := Parse(s); p != want || f != e {
		t.Errorf("%q: %v %d, want %v %d", s, p, f, want, e)
	}
}

// P2.1, P1: each letter with each number, and each short text of such bytes
func TestParseShort(t *testing.T) {
	form := regexp.MustCompile(`\A[A-Z][1-9][0-9]{0,2}\z`)
	texts := map[string]api.Place{}
	for p := range all {
		texts[written(p)] = p
	}
	for c := range 256 {
		for n := range 1100 {
			s := string([]byte{byte(c)}) + fmt.Sprint(n)
			judge(t, form, texts, s)
		}
	}
	for _, layout := range []string{"%02d", "%03d", "%04d"} {
		for n := range 1100 {
			judge(t, form, texts, "A"+fmt.Sprintf(layout, n))
		}
	}
	for a := range 256 {
		for b := range 256 {
			two := string([]byte{byte(a), byte(b)})
			for _, s := range []string{two, "A" + two, two + "1", "P6" + two, two + "64"} {
				judge(t, form, texts, s)
			}
		}
	}
}

// P2.1, P1
func TestAt(t *testing.T) {
	i := 0
	for p := range all {
		if q, ok := At(i); q != p || !ok {
			t.Errorf("%d: %v %t", i, q, ok)
		}
		i++
	}
	for _, i := range wild() {
		if i >= 0 && i < 1024 {
			continue
		}
		if p, ok := At(i); p != (api.Place{}) || ok {
			t.Errorf("%d: %v %t", i, p, ok)
		}
	}
}

// moved tells whether a move is what it is without bounds.
func moved(t *testing.T, p, by api.Place) {
	t.Helper()
	col := new(big.Int).Add(big.NewInt(int64(p.Col)), big.NewInt(int64(by.Col)))
	row := new(big.Int).Add(big.NewInt(int64(p.Row)), big.NewInt(int64(by.Row)))
	ok := col.Sign() >= 0 && row.Sign() >= 0 && col.Cmp(big.NewInt(16)) < 0 && row.Cmp(big.NewInt(64)) < 0
	want := api.Place{}
	if ok {
		want = at(int(col.Int64()), int(row.Int64()))
	}
	if q, is := Move(p, by); q != want || is != ok {
		t.Errorf("Move %v %v: %v %t, want %v %t", p, by, q, is, want, ok)
	}
}

// P2.1, P1: moves of all places, by what is about the sheet, and by what is far off
func TestMove(t *testing.T) {
	for p := range all {
		for col := -17; col <= 17; col++ {
			for row := -66; row <= 66; row++ {
				ok := p.Col+col >= 0 && p.Col+col < 16 && p.Row+row >= 0 && p.Row+row < 64
				want := api.Place{}
				if ok {
					want = at(p.Col+col, p.Row+row)
				}
				if q, is := Move(p, at(col, row)); q != want || is != ok {
					t.Fatalf("Move %v %d %d: %v %t", p, col, row, q, is)
				}
			}
		}
	}
	for _, p := range []api.Place{at(0, 0), at(15, 63), at(3, 2), at(0, 63), at(15, 0)} {
		for _, col := range wild() {
			for _, row := range wild() {
				moved(t, p, at(col, row))
			}
		}
	}
}

// P2.1, P1: what may not be is not moved, not even to where one may be
func TestMoveWrong(t *testing.T) {
	for _, p := range wrong() {
		for _, by := range []api.Place{at(0, 0), at(-p.Col, -p.Row), at(1, 1), at(-1, -1), at(7-p.Col, 7-p.Row), at(most, most), at(least, least), p} {
			if q, ok := Move(p, by); q != (api.Place{}) || ok {
				t.Errorf("Move %v %v: %v %t", p, by, q, ok)
			}
		}
	}
}

// P2.1, P1
func TestMirror(t *testing.T) {
	for p := range all {
		want, ok := at(p.Row, p.Col), p.Row < 16
		if !ok {
			want = api.Place{}
		}
		if q, is := Mirror(p); q != want || is != ok {
			t.Errorf("Mirror %v: %v %t", p, q, is)
		}
	}
	for _, p := range wrong() {
		if q, ok := Mirror(p); q != (api.Place{}) || ok {
			t.Errorf("Mirror %v: %v %t", p, q, ok)
		}
	}
	if q, ok := Mirror(at(63, 15)); q != (api.Place{}) || ok {
		t.Errorf("Mirror of what may not be, to what may: %v %t", q, ok)
	}
}

// some are places at the edges of the sheet, and amidst it.
func some() []api.Place {
	var l []api.Place
	for _, row := range []int{0, 1, 15, 31, 62, 63} {
		for _, col := range []int{0, 1, 7, 14, 15} {
			l = append(l, at(col, row))
		}
	}
	return l
}

// ranges are those between some places, that may be.
func ranges() []api.Range {
	var l []api.Range
	for _, a := range some() {
		for _, b := range some() {
			if a.Col <= b.Col && a.Row <= b.Row {
				l = append(l, api.Range{From: a, To: b})
			}
		}
	}
	return l
}

// bad are ranges that may not be.
func bad() []api.Range {
	l := []api.Range{from(2, 2, 0, 0), from(1, 0, 0, 0), from(0, 1, 0, 0), from(3, 2, 2, 9), from(2, 3, 9, 2), from(15, 63, 0, 0), from(15, 0, 0, 63), from(0, 63, 15, 0),
		from(0, 0, 16, 0), from(0, 0, 0, 64), from(-1, 0, 0, 0), from(0, -1, 0, 0), from(-1, -1, 16, 64), from(-1, -1, -1, -1), from(16, 64, 16, 64), from(16, 0, 17, 0), from(0, 64, 0, 65),
		from(least, least, most, most), from(most, most, least, least), from(0, 0, most, most), from(least, least, 15, 63)}
	for _, p := range wrong() {
		l = append(l, api.Range{From: p, To: at(15, 63)}, api.Range{To: p}, api.Range{From: p, To: p})
	}
	return l
}

// set is which places are there, by index.
type set [1024]bool

// has is what a range that may be has, as the document tells it.
func has(r api.Range) set {
	var s set
	for row := r.From.Row; row <= r.To.Row; row++ {
		for col := r.From.Col; col <= r.To.Col; col++ {
			s[16*row+col] = true
		}
	}
	return s
}

// P2.1, P2: the least range with both, whichever stands first
func TestSpan(t *testing.T) {
	for p := range all {
		for q := range all {
			want := from(min(p.Col, q.Col), min(p.Row, q.Row), max(p.Col, q.Col), max(p.Row, q.Row))
			if r, ok := Span(p, q); r != want || !ok {
				t.Fatalf("Span %v %v: %v %t", p, q, r, ok)
			}
		}
	}
	for _, p := range wrong() {
		for _, x := range [][2]api.Place{{p, at(0, 0)}, {at(0, 0), p}, {p, p}, {p, at(15, 63)}, {at(15, 63), p}} {
			if r, ok := Span(x[0], x[1]); r != (api.Range{}) || ok {
				t.Errorf("Span %v: %v %t", x, r, ok)
			}
		}
	}
}

// P2.1, P2
func TestWhole(t *testing.T) {
	for p := range all {
		for q := range all {
			if Whole(api.Range{From: p, To: q}) != (p.Col <= q.Col && p.Row <= q.Row) {
				t.Fatalf("Whole %v %v", p, q)
			}
		}
	}
	for _, r := range bad() {
		if Whole(r) {
			t.Errorf("Whole %v", r)
		}
	}
}

// P2.1, P2; P2.2: a range has just its cells, row by row
func TestCells(t *testing.T) {
	for _, r := range ranges() {
		s, n := has(r), 0
		l := Cells(r)
		for p := range all {
			in := s[16*p.Row+p.Col]
			if Has(r, p) != in {
				t.Fatalf("Has %v %v: not %t", r, p, in)
			}
			if in && (n >= len(l) || l[n] != p) {
				t.Fatalf("Cells %v: no %v as number %d", r, p, n)
			}
			if in {
				n++
			}
		}
		if len(l) != n {
			t.Errorf("Cells %v: %d, want %d", r, len(l), n)
		}
	}
	for _, p := range wrong() {
		for _, r := range []api.Range{from(0, 0, 15, 63), from(0, 0, 0, 0), from(15, 63, 15, 63), from(3, 2, 7, 9)} {
			if Has(r, p) {
				t.Errorf("Has %v %v", r, p)
			}
		}
	}
}

// P2.1, P2: what may not be has nothing
func TestCellsNone(t *testing.T) {
	for _, r := range bad() {
		if l := Cells(r); len(l) != 0 {
			t.Errorf("Cells %v: %v", r, l)
		}
		for _, p := range append(some(), r.From, r.To, at(2, 2)) {
			if Has(r, p) {
				t.Errorf("Has %v %v", r, p)
			}
		}
	}
}

// P2.1, P2: just what both have, in both orders
func TestMeet(t *testing.T) {
	l := ranges()
	var sets []set
	for _, r := range l {
		sets = append(sets, has(r))
	}
	for i, a := range l {
		for j, b := range l {
			var both set
			for k := range both {
				both[k] = sets[i][k] && sets[j][k]
			}
			m, ok := Meet(a, b)
			if ok != (both != set{}) || ok && has(m) != both || !ok && m != (api.Range{}) {
				t.Fatalf("Meet %v %v: %v %t", a, b, m, ok)
			}
		}
	}
}

// P2.1, P2: edges, and ranges that may not be
func TestMeetNamed(t *testing.T) {
	for _, x := range []struct {
		a, b, want api.Range
		ok         bool
	}{
		{from(0, 0, 3, 3), from(3, 3, 9, 9), from(3, 3, 3, 3), true}, {from(0, 0, 3, 3), from(4, 0, 9, 9), api.Range{}, false}, {from(0, 0, 3, 3), from(0, 4, 9, 9), api.Range{}, false},
		{from(0, 0, 15, 63), from(4, 5, 6, 7), from(4, 5, 6, 7), true}, {from(0, 5, 15, 5), from(7, 0, 7, 63), from(7, 5, 7, 5), true}, {from(2, 2, 2, 2), from(2, 2, 2, 2), from(2, 2, 2, 2), true},
		{from(0, 0, 0, 0), from(15, 63, 15, 63), api.Range{}, false}, {from(0, 0, 5, 5), from(3, 3, 9, 9), from(3, 3, 5, 5), true}, {from(0, 9, 5, 12), from(3, 3, 9, 9), from(3, 9, 5, 9), true},
	} {
		m, ok := Meet(x.a, x.b)
		n, also := Meet(x.b, x.a)
		if m != x.want || ok != x.ok || n != m || also != ok {
			t.Errorf("Meet %v %v: %v %t, %v %t", x.a, x.b, m, ok, n, also)
		}
	}
	for _, r := range bad() {
		for _, x := range [][2]api.Range{{r, from(0, 0, 15, 63)}, {from(0, 0, 15, 63), r}, {r, r}, {r, from(0, 0, 0, 0)}} {
			if m, ok := Meet(x[0], x[1]); m != (api.Range{}) || ok {
				t.Errorf("Meet %v: %v %t", x, m, ok)
			}
		}
	}
}

// P2.2
func TestThereAndBack(t *testing.T) {
	r := rand.New(rand.NewPCG(3, 4))
	for p := range all {
		if q, e := Parse(Text(p)); q != p || e != api.OK {
			t.Errorf("Text, Parse %v: %v %d", p, q, e)
		}
		if q, ok := At(Index(p)); q != p || !ok {
			t.Errorf("Index, At %v: %v %t", p, q, ok)
		}
		if q, ok := Mirror(p); ok {
			if q, ok = Mirror(q); q != p || !ok {
				t.Errorf("Mirror twice %v: %v %t", p, q, ok)
			}
		}
		for range 500 {
			by := at(r.IntN(32)-16, r.IntN(128)-64)
			if q, ok := Move(p, by); ok {
				if q, ok = Move(q, at(-by.Col, -by.Row)); q != p || !ok {
					t.Errorf("Move on and back %v %v: %v %t", p, by, q, ok)
				}
			}
		}
		if l := Cells(api.Range{From: p, To: p}); len(l) != 1 || l[0] != p {
			t.Errorf("Cells of %v alone: %v", p, l)
		}
	}
	if l := Cells(from(0, 0, 15, 63)); len(l) != 1024 {
		t.Errorf("Cells of all: %d", len(l))
	}
}

// Rule 4: what is answered is new memory
func TestNewMemory(t *testing.T) {
	r := from(1, 1, 3, 3)
	a := Cells(r)
	for i := range a {
		a[i] = at(-1, -1)
	}
	_ = append(a, at(9, 9))
	if l := Cells(r); len(l) != 9 || l[0] != at(1, 1) || l[8] != at(3, 3) {
		t.Errorf("Cells again: %v", l)
	}
}

// P2: what was asked ahead changes no answer
func TestSameAnswer(t *testing.T) {
	ask := func() string {
		p, e := Parse("C7")
		q, ok := Move(p, at(1, -2))
		m, also := Mirror(q)
		both, meet := Meet(from(0, 0, 3, 3), from(2, 1, 9, 9))
		return fmt.Sprint(p, e, q, ok, m, also, both, meet, Cells(both), Text(q), Index(m))
	}
	first := ask()
	Parse("Q1")
	Parse("")
	Move(at(0, 0), at(least, most))
	Cells(from(2, 2, 0, 0))
	At(-1)
	if again := ask(); again != first {
		t.Errorf("%s, then %s", first, again)
	}
}
