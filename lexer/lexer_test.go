package lexer

import (
	"fmt"
	"math/big"
	"math/rand/v2"
	"regexp"
	"slices"
	"strings"
	"testing"

	"gridiron/api"
)

const greatest = 1<<63 - 1

func num(n, from int) Token { return Token{Kind: Num, Num: n, From: from} }

func at(col, row, from int) Token {
	return Token{Kind: Place, At: api.Place{Col: col, Row: row}, From: from}
}

func bad(from int) Token { return Token{Kind: Bad, From: from} }

func called(s string, from int) Token { return Token{Kind: Word, Text: s, From: from} }

func mark(s string, from int) Token { return Token{Kind: Mark, Text: s, From: from} }

// words and marks are those that the document names.
func words() []string { return []string{"IF", "SUM", "MIN", "MAX", "COUNT"} }

func marks() []string {
	return []string{"+", "-", "*", "/", "(", ")", ",", ":", "<", "<=", "=", "<>", ">=", ">"}
}

// gives tells whether a text has just these tokens.
func gives(t *testing.T, s string, want ...Token) {
	t.Helper()
	if l, from, e := Scan(s); !slices.Equal(l, want) || from != 0 || e != api.OK {
		t.Errorf("%q: %v %d %d, want %v", s, l, from, e, want)
	}
}

// fails tells whether a text has no tokens, for a reason.
func fails(t *testing.T, s string, from int, want api.Errno) {
	t.Helper()
	if l, is, e := Scan(s); len(l) != 0 || is != from || e != want {
		t.Errorf("%.300q: %v %d %d, want %d %d", s, l, is, e, from, want)
	}
}

// plain is what a text's tokens are, as the document tells it: by forms, and by a table of all places.
type plain struct {
	part, form *regexp.Regexp
	places     map[string]api.Place
}

func newPlain() plain {
	p := plain{
		// what is tried first is what is longer
		part:   regexp.MustCompile(`\A(?:([0-9]+)|([A-Z][A-Z0-9]*)|(#REF)|(<=|<>|>=|[-+*/(),:<=>]))`),
		form:   regexp.MustCompile(`\A[A-Z][1-9][0-9]?[0-9]?\z`),
		places: map[string]api.Place{},
	}
	for col, c := range "ABCDEFGHIJKLMNOP" {
		for row := range 64 {
			p.places[fmt.Sprintf("%c%d", c, row+1)] = api.Place{Col: col, Row: row}
		}
	}
	return p
}

// named is the token that a name is; false, if it is none.
func (p plain) named(s string) (Token, bool) {
	if at, is := p.places[s]; is {
		return Token{Kind: 2, At: at}, true
	}
	if p.form.MatchString(s) {
		return Token{Kind: 3}, true
	}
	return Token{Kind: 4, Text: s}, slices.Contains(words(), s)
}

// counted is the token that figures are; false, if they are too great.
func counted(s string) (Token, bool) {
	n, _ := new(big.Int).SetString(s, 10)
	return Token{Kind: 1, Num: int(n.Int64())}, n.IsInt64()
}

// scan is what Scan is to answer.
func (p plain) scan(s string) ([]Token, int, api.Errno) {
	if len(s) > 200 {
		return nil, 0, api.ErrFull
	}
	var l []Token
	for rest := strings.TrimLeft(s, " "); rest != ""; rest = strings.TrimLeft(rest, " ") {
		var token Token
		found := p.part.FindStringSubmatch(rest)
		is := found != nil
		switch {
		case !is:
		case found[1] != "":
			token, is = counted(found[1])
		case found[2] != "":
			token, is = p.named(found[2])
		case found[3] != "":
			token = Token{Kind: 3}
		default:
			token = Token{Kind: 5, Text: found[4]}
		}
		token.From = len(s) - len(rest)
		if !is {
			return nil, token.From, api.ErrForm
		}
		l = append(l, token)
		rest = rest[len(found[0]):]
	}
	return l, 0, api.OK
}

// judge holds what is told of a text against what is to be told.
func (p plain) judge(t *testing.T, s string) {
	t.Helper()
	want, place, errno := p.scan(s)
	if l, from, e := Scan(s); !slices.Equal(l, want) || from != place || e != errno {
		t.Fatalf("%q: %v %d %d, want %v %d %d", s, l, from, e, want, place, errno)
	}
}

// P4.1: the kinds' numbers
func TestKinds(t *testing.T) {
	for i, kind := range []Kind{Num, Place, Bad, Word, Mark} {
		if int(kind) != i+1 {
			t.Errorf("%d: %d", i+1, kind)
		}
	}
}

// P4.1: ordinary formulas
func TestScan(t *testing.T) {
	gives(t, "A1*-3", at(0, 0, 0), mark("*", 2), mark("-", 3), num(3, 4))
	gives(t, "IF(A1>4,1,1/0)", called("IF", 0), mark("(", 2), at(0, 0, 3), mark(">", 5), num(4, 6), mark(",", 7), num(1, 8), mark(",", 9), num(1, 10), mark("/", 11), num(0, 12), mark(")", 13))
	gives(t, "COUNT( A1:P64 ) + MIN(12,#REF)", called("COUNT", 0), mark("(", 5), at(0, 0, 7), mark(":", 9), at(15, 63, 10), mark(")", 14), mark("+", 16), called("MIN", 18), mark("(", 21), num(12, 22), mark(",", 24), bad(25), mark(")", 29))
	gives(t, "(1<2)=(3>4)", mark("(", 0), num(1, 1), mark("<", 2), num(2, 3), mark(")", 4), mark("=", 5), mark("(", 6), num(3, 7), mark(">", 8), num(4, 9), mark(")", 10))
	gives(t, "#REF+B1", bad(0), mark("+", 4), at(1, 0, 5))
	gives(t, "Q1-MAX(SUM(J9:J10),A65)", bad(0), mark("-", 2), called("MAX", 3), mark("(", 6), called("SUM", 7), mark("(", 10), at(9, 8, 11), mark(":", 13), at(9, 9, 14), mark(")", 17), mark(",", 18), bad(19), mark(")", 22))
}

// P4.1: tokens in an order that is no formula are tokens, all the same
func TestScanNoFormula(t *testing.T) {
	gives(t, ")(", mark(")", 0), mark("(", 1))
	gives(t, "1 2", num(1, 0), num(2, 2))
	gives(t, "IF IF", called("IF", 0), called("IF", 3))
	gives(t, "12A1", num(12, 0), at(0, 0, 2))
	gives(t, "0A1", num(0, 0), at(0, 0, 1))
	gives(t, "7SUM", num(7, 0), called("SUM", 1))
	gives(t, ",", mark(",", 0))
	gives(t, "A1 B2", at(0, 0, 0), at(1, 1, 3))
}

// P4.1: each mark alone, and each two and three of them side by side: the longest that stands there
func TestMarks(t *testing.T) {
	for _, s := range marks() {
		gives(t, s, mark(s, 0))
		gives(t, " "+s+" ", mark(s, 1))
		gives(t, "1"+s+"A1", num(1, 0), mark(s, 1), at(0, 0, 1+len(s)))
	}
	gives(t, "<=>", mark("<=", 0), mark(">", 2))
	gives(t, "<>=", mark("<>", 0), mark("=", 2))
	gives(t, "<<=", mark("<", 0), mark("<=", 1))
	gives(t, ">>=", mark(">", 0), mark(">=", 1))
	gives(t, "><", mark(">", 0), mark("<", 1))
	gives(t, "=<", mark("=", 0), mark("<", 1))
	gives(t, "=>", mark("=", 0), mark(">", 1))
	gives(t, "==", mark("=", 0), mark("=", 1))
	gives(t, "<==", mark("<=", 0), mark("=", 2))
	gives(t, ">==", mark(">=", 0), mark("=", 2))
	gives(t, "<>>", mark("<>", 0), mark(">", 2))
	gives(t, "--", mark("-", 0), mark("-", 1))
	gives(t, "< =", mark("<", 0), mark("=", 2))
	gives(t, "< >", mark("<", 0), mark(">", 2))
	gives(t, "> =", mark(">", 0), mark("=", 2))
	p := newPlain()
	for _, a := range marks() {
		for _, b := range marks() {
			for _, c := range marks() {
				p.judge(t, a+b)
				p.judge(t, a+b+c)
			}
		}
	}
}

// P4.1: figures, as many as there are
func TestNumbers(t *testing.T) {
	for s, want := range map[string]int{
		"0": 0, "1": 1, "9": 9, "10": 10, "42": 42, "1234567890": 1234567890, "00": 0, "007": 7, "000100": 100, "08": 8, "0019": 19,
		"9223372036854775806": greatest - 1, "9223372036854775807": greatest, "09223372036854775807": greatest, "0000009223372036854775807": greatest,
		strings.Repeat("0", 200): 0, strings.Repeat("0", 199) + "5": 5, strings.Repeat("0", 181) + "9223372036854775807": greatest,
	} {
		gives(t, s, num(want, 0))
	}
	for _, s := range []string{
		"9223372036854775808", "9223372036854775809", "9223372036854775810", "9223372036854775817", "9999999999999999999", "10000000000000000000", "09223372036854775808", strings.Repeat("0", 181) + "9223372036854775808",
		"18446744073709551615", "18446744073709551616", "18446744073709551617", "36893488147419103239", "340282366920938463463374607431768211463", strings.Repeat("9", 200), "1" + strings.Repeat("0", 199),
	} {
		fails(t, s, 0, api.ErrForm)
		if len(s) < 150 {
			fails(t, "A1+ "+s+" -1", 4, api.ErrForm)
			fails(t, s+"A1", 0, api.ErrForm)
			fails(t, s+".5", 0, api.ErrForm)
		}
	}
	// figures of other alphabets, and what stands in numbers elsewhere, are none
	for _, s := range []string{"\u0665", "\uff11", "\u00b2", ".5", "_1"} {
		fails(t, s, 0, api.ErrForm)
		fails(t, "1"+s, 1, api.ErrForm)
	}
	fails(t, "1e5", 1, api.ErrForm)
	fails(t, "0x1F", 1, api.ErrForm)
	fails(t, "1_000", 1, api.ErrForm)
	fails(t, "0b1", 1, api.ErrForm)
	gives(t, "-9223372036854775807", mark("-", 0), num(greatest, 1))
	gives(t, "+5", mark("+", 0), num(5, 1))
}

// P4.1: all places' texts, and all names that have a place's form
func TestPlaces(t *testing.T) {
	p := newPlain()
	if len(p.places) != 1024 {
		t.Fatalf("%d places", len(p.places))
	}
	for s, x := range p.places {
		gives(t, s, at(x.Col, x.Row, 0))
		gives(t, " -"+s+")", mark("-", 1), at(x.Col, x.Row, 2), mark(")", 2+len(s)))
	}
	for c := 'A'; c <= 'Z'; c++ {
		for n := range 1200 {
			p.judge(t, fmt.Sprintf("%c%d", c, n))
			p.judge(t, fmt.Sprintf("%c%03d", c, n))
		}
	}
	for _, s := range []string{"Q1", "Z1", "Q64", "A65", "P65", "A100", "P641", "A999", "Z999", "A256", "A257"} {
		gives(t, s, bad(0))
		gives(t, "1+"+s+"-1", num(1, 0), mark("+", 1), bad(2), mark("-", 2+len(s)), num(1, 3+len(s)))
	}
}

// P4.1: words; names that are none, at the beginning, in the middle, and at the end
func TestNames(t *testing.T) {
	for _, s := range words() {
		gives(t, s, called(s, 0))
		gives(t, s+"("+s, called(s, 0), mark("(", len(s)), called(s, 1+len(s)))
		gives(t, "  "+s+" ", called(s, 2))
	}
	none := []string{
		"A", "Z", "A0", "A00", "A01", "A064", "Q0", "Q01", "A1000", "A1024", "Z9999", "AA1", "AA", "AB", "A1A", "A1B2", "A1B", "A11B", "P64P", "Q1Q1", "A99999999999999999999",
		"I", "F", "IFF", "IF1", "IFA1", "IFIF", "FI", "XIF", "SU", "SUMS", "SUM2", "SUM12", "SUMA1", "SUMSUM", "ASUM", "MI", "MINI", "MIN1", "MINMAX", "MA", "MAXI", "MAX1", "COUN", "COUNT1", "COUNTS", "COUNTA", "COUNTIF", "DISCOUNT",
		"REF", "NUM", "AND", "OR", "NOT", "AVG", "AVERAGE", "ABS", "TRUE", "E5E5", strings.Repeat("A", 190), "A" + strings.Repeat("1", 189), strings.Repeat("SUM", 60),
	}
	for _, s := range none {
		fails(t, s, 0, api.ErrForm)
		fails(t, "1+ "+s, 3, api.ErrForm)
		fails(t, "#REF "+s+" 1", 5, api.ErrForm)
		fails(t, "12"+s+"+", 2, api.ErrForm)
	}
	for _, s := range []string{"a1", "if", "sum", "Sum", "cOUNT", "sUM", "If"} {
		fails(t, s, 0, api.ErrForm)
		fails(t, "A1+"+s, 3, api.ErrForm)
	}
	// what ends a name: a blank, a mark, a byte that begins nothing
	gives(t, "A1 1", at(0, 0, 0), num(1, 3))
	gives(t, "A1#REF", at(0, 0, 0), bad(2))
	fails(t, "A1a", 2, api.ErrForm)
	fails(t, "IFx", 2, api.ErrForm)
	fails(t, "A1_", 2, api.ErrForm)
	fails(t, "A_1", 0, api.ErrForm)
	fails(t, "A$1", 0, api.ErrForm)
	fails(t, "$A1", 0, api.ErrForm)
	fails(t, "A1\u00c4", 2, api.ErrForm)
	fails(t, "\uff21\uff11", 0, api.ErrForm)
	fails(t, "A\uff11", 0, api.ErrForm)
	fails(t, "SUM\u0391", 3, api.ErrForm)
}

// P4.1: each name of up to four letters: just the words are tokens
func TestLetters(t *testing.T) {
	names := []string{""}
	for from, n := 0, 0; n < 4; n++ {
		to := len(names)
		for _, s := range names[from:to] {
			for c := 'A'; c <= 'Z'; c++ {
				names = append(names, s+string(c))
			}
		}
		from = to
	}
	for _, s := range names[1:] {
		if slices.Contains(words(), s) {
			gives(t, s, called(s, 0))
		} else if l, from, e := Scan(s); len(l) != 0 || from != 0 || e != api.ErrForm {
			t.Fatalf("%q: %v %d %d", s, l, from, e)
		}
	}
}

// P4.1: each word with a byte changed, gone, or come in
func TestAlmostWords(t *testing.T) {
	p := newPlain()
	for _, s := range words() {
		for i := range len(s) {
			p.judge(t, s[:i]+s[i+1:])
			for c := range 256 {
				one := string([]byte{byte(c)})
				p.judge(t, s[:i]+one+s[i:])
				p.judge(t, s[:i]+one+s[i+1:])
				p.judge(t, s+one)
			}
		}
	}
}

// P4.1: #REF, what is short of it, and what stands behind it
func TestRef(t *testing.T) {
	gives(t, "#REF", bad(0))
	gives(t, "#REF#REF", bad(0), bad(4))
	gives(t, "#REF1", bad(0), num(1, 4))
	gives(t, "#REFA1", bad(0), at(0, 0, 4))
	gives(t, "#REFSUM", bad(0), called("SUM", 4))
	gives(t, "#REFQ1", bad(0), bad(4))
	gives(t, "#REF:A1", bad(0), mark(":", 4), at(0, 0, 5))
	for _, s := range []string{"#", "#R", "#RE", "##", "#ref", "#Ref", "#rEF", "#REf", "# REF", "#R EF", "#RE F", "#RFE", "#REE", "#OVER", "#DIV", "#CYCLE", "#1", "#A1", "#SUM", "#\u211aEF"} {
		fails(t, s, 0, api.ErrForm)
		fails(t, s+" 1", 0, api.ErrForm)
		fails(t, "1 "+s, 2, api.ErrForm)
		fails(t, "#REF"+s, 4, api.ErrForm)
	}
	fails(t, "##REF", 0, api.ErrForm)
	fails(t, "#REF!", 4, api.ErrForm)
	fails(t, "#REFS", 4, api.ErrForm)
	fails(t, "#REFREF", 4, api.ErrForm)
	fails(t, "\uff03REF", 0, api.ErrForm)
}

// P4.1: blanks ahead, between, behind, and nothing else; an empty text
func TestBlanks(t *testing.T) {
	gives(t, "")
	for n := range 201 {
		gives(t, strings.Repeat(" ", n))
	}
	gives(t, "   A1", at(0, 0, 3))
	gives(t, "A1   ", at(0, 0, 0))
	gives(t, " 1   +  2  ", num(1, 1), mark("+", 5), num(2, 8))
	gives(t, strings.Repeat(" ", 199)+"7", num(7, 199))
	gives(t, "7"+strings.Repeat(" ", 199), num(7, 0))
	gives(t, "1"+strings.Repeat(" ", 198)+"2", num(1, 0), num(2, 199))
	fails(t, strings.Repeat(" ", 199)+"a", 199, api.ErrForm)
	// a blank parts what would be one token
	gives(t, "1 2", num(1, 0), num(2, 2))
	fails(t, "A 1", 0, api.ErrForm)
	fails(t, "SU M", 0, api.ErrForm)
	gives(t, "A1 1", at(0, 0, 0), num(1, 3))
	// no other byte is one
	for _, s := range []string{"\t", "\n", "\r", "\v", "\f", "\x00", "\u00a0", "\u2003", "\u3000", "\ufeff", "\u200b"} {
		fails(t, s, 0, api.ErrForm)
		fails(t, s+"1", 0, api.ErrForm)
		fails(t, "1 "+s, 2, api.ErrForm)
		fails(t, "A1"+s+"+1", 2, api.ErrForm)
	}
}

// P4.1: each byte at the beginning, in the middle, and at the end, touching what stands there or not
func TestBytes(t *testing.T) {
	p := newPlain()
	for c := range 256 {
		s := string([]byte{byte(c)})
		begins := strings.Contains("0123456789 +-*/(),:<=>", s)
		l, from, e := Scan(s)
		if begins != (e == api.OK) || from != 0 || !begins && (e != api.ErrForm || len(l) != 0) {
			t.Errorf("%q: %v %d %d", s, l, from, e)
		}
		for _, ahead := range []string{"", " ", "1", "A1", "Q1", "SUM", "<", ">", "=", "+", "(", "#REF", "#RE", "#", "1 ", "A1 ", "< "} {
			for _, behind := range []string{"", " ", "1", "A1", "Q1", "SUM", "<", ">", "=", "+", ")", "#REF", "REF", " 1", " A1", "\xff", "a"} {
				p.judge(t, ahead+s+behind)
			}
		}
		if !begins && !strings.Contains("ABCDEFGHIJKLMNOPQRSTUVWXYZ#", s) {
			fails(t, s+"+1", 0, api.ErrForm)
			fails(t, "1 + "+s+" +2", 4, api.ErrForm)
			fails(t, "A1+2"+s, 4, api.ErrForm)
		}
	}
}

// P4.1: signs of more than a byte, whole and cut off; the byte, not the sign, is told
func TestSigns(t *testing.T) {
	for _, s := range []string{"\u00e9", "\u00df", "\u0100", "\u0130", "\u0131", "\u0141", "\u2212", "\u00d7", "\u2264", "\u2260", "\u4e00", "\ufffd", "\U0001f600", "\xff", "\xc3", "\xe2\x88", "\xf0\x9f\x98", "\xc0\xb1", "\xed\xa0\x80"} {
		fails(t, s, 0, api.ErrForm)
		fails(t, s+s+"1", 0, api.ErrForm)
		fails(t, "A1 <= "+s, 6, api.ErrForm)
		fails(t, "A1"+s, 2, api.ErrForm)
		fails(t, "12"+s+s, 2, api.ErrForm)
		fails(t, "<"+s, 1, api.ErrForm)
		fails(t, "#REF"+s, 4, api.ErrForm)
		fails(t, "A"+s, 0, api.ErrForm)
		fails(t, "1 "+s+" a", 2, api.ErrForm)
	}
}

// P4.1: the first thing that is no token is told, whatever else stands behind it
func TestFirst(t *testing.T) {
	things := []string{"a", "A01", "#RE", "9223372036854775808", "\t", "SUM2", "\xff", "A"}
	for _, a := range things {
		for _, b := range things {
			fails(t, a+" "+b, 0, api.ErrForm)
			fails(t, "A1+ "+a+" "+b, 4, api.ErrForm)
			fails(t, "1 "+a+" + "+b+" A1", 2, api.ErrForm)
		}
	}
}

// P4.1: a text of 200 bytes, and one of 201; length goes ahead of form; bytes are counted, not signs
func TestLong(t *testing.T) {
	sum := strings.Repeat("1+", 99) + "12"
	l, from, e := Scan(sum)
	if len(sum) != 200 || len(l) != 199 || from != 0 || e != api.OK {
		t.Fatalf("%d: %d tokens, %d %d", len(sum), len(l), from, e)
	}
	for i, x := range l {
		want := num(1, i)
		if i%2 == 1 {
			want = mark("+", i)
		}
		if i == 198 {
			want.Num = 12
		}
		if x != want {
			t.Errorf("%d: %v, want %v", i, x, want)
		}
	}
	gives(t, strings.Repeat("0", 200), num(0, 0))
	fails(t, strings.Repeat("a", 200), 0, api.ErrForm)
	fails(t, strings.Repeat("(", 199)+"a", 199, api.ErrForm)
	fails(t, strings.Repeat("\u00e9", 100), 0, api.ErrForm)
	fails(t, "1 "+strings.Repeat("\u00e9", 99), 2, api.ErrForm)
	for _, s := range []string{
		sum + "3", sum + " ", " " + sum, strings.Repeat(" ", 201), strings.Repeat("1", 201), strings.Repeat("0", 201), strings.Repeat("(", 201), strings.Repeat("a", 201), "a" + strings.Repeat(" ", 200), "1 a" + strings.Repeat(" ", 198),
		strings.Repeat("\u00e9", 100) + "1", strings.Repeat("\u00e9", 101), strings.Repeat("\xff", 201), strings.Repeat("A", 201), strings.Repeat("1+", 1000), strings.Repeat("a", 1<<20), strings.Repeat("1", 1<<20),
	} {
		fails(t, s, 0, api.ErrFull)
	}
}

// P4.1: each short text of some bytes
func TestShort(t *testing.T) {
	p := newPlain()
	texts := []string{""}
	for from, n := 0, 0; n < 4; n++ {
		to := len(texts)
		for _, s := range texts[from:to] {
			for _, c := range "016AQIF#RE<=>-( a" {
				texts = append(texts, s+string(c))
			}
		}
		from = to
	}
	for _, s := range texts {
		p.judge(t, s)
	}
}

// pieces are texts of tokens, and some that are none.
func pieces() ([]string, []string) {
	tokens := append(append(words(), marks()...), "0", "7", "007", "42", "9223372036854775807", "A1", "P64", "J10", "C3", "Q1", "A65", "Z999", "#REF")
	none := []string{"9223372036854775808", "A", "A0", "A01", "A1000", "AA1", "SUMS", "IFF", "#", "#RE", "a", "$", ".", "\t", "\u00e9", "\xff", "\x00"}
	return tokens, none
}

// P4.1: texts of pieces, made by a rule, side by side or apart, short and too long
func TestPieces(t *testing.T) {
	r := rand.New(rand.NewPCG(13, 14))
	p := newPlain()
	tokens, none := pieces()
	for range 100000 {
		var s strings.Builder
		for range r.IntN(70) {
			if r.IntN(40) == 0 {
				s.WriteString(none[r.IntN(len(none))])
			} else {
				s.WriteString(tokens[r.IntN(len(tokens))])
			}
			s.WriteString(strings.Repeat(" ", max(0, r.IntN(5)-2)))
		}
		p.judge(t, s.String())
	}
}

// P1, P4.1: any bytes
func TestAnyBytes(t *testing.T) {
	r := rand.New(rand.NewPCG(15, 16))
	p := newPlain()
	for range 50000 {
		b := make([]byte, r.IntN(24))
		for i := range b {
			b[i] = byte(r.Uint32())
			if r.IntN(3) > 0 {
				b[i] = "0123456789ABCDEFPQSUMIX#<=>+-*/(),: "[r.IntN(36)]
			}
		}
		p.judge(t, string(b))
	}
}

// moved are tokens, each so much further on.
func moved(l []Token, by int) []Token {
	l = slices.Clone(l)
	for i := range l {
		l[i].From += by
	}
	return l
}

// bare are tokens, without where they begin.
func bare(l []Token) []Token {
	l = slices.Clone(l)
	for i := range l {
		l[i].From = 0
	}
	return l
}

// parted is a text with each of its tokens apart, and a blank behind each.
func parted(s string, l []Token) string {
	var b strings.Builder
	for i, x := range l {
		end := len(s)
		if i+1 < len(l) {
			end = l[i+1].From
		}
		b.WriteString(strings.TrimRight(s[x.From:end], " ") + " ")
	}
	return b.String()
}

// P4.2: blanks ahead and behind change nothing but where tokens begin, also where something is no token
func TestBlanksAbout(t *testing.T) {
	r := rand.New(rand.NewPCG(17, 18))
	tokens, none := pieces()
	for range 50000 {
		s := ""
		for range r.IntN(6) {
			s += tokens[r.IntN(len(tokens))] + strings.Repeat(" ", r.IntN(2))
		}
		if r.IntN(4) == 0 {
			s += " " + none[r.IntN(len(none))]
		}
		want, place, errno := Scan(s)
		ahead, behind := r.IntN(20), r.IntN(20)
		l, from, e := Scan(strings.Repeat(" ", ahead) + s + strings.Repeat(" ", behind))
		if errno != api.OK {
			place += ahead
		}
		if !slices.Equal(l, moved(want, ahead)) || from != place || e != errno {
			t.Fatalf("%q, %d and %d blanks: %v %d %d, without them %v %d %d", s, ahead, behind, l, from, e, want, place, errno)
		}
	}
}

// P4.2: a text's tokens, each with a blank behind, are the same tokens
func TestParted(t *testing.T) {
	r := rand.New(rand.NewPCG(19, 20))
	tokens, _ := pieces()
	held := 0
	for range 50000 {
		s := ""
		for range r.IntN(12) {
			s += tokens[r.IntN(len(tokens))] + strings.Repeat(" ", r.IntN(2))
		}
		want, _, errno := Scan(s)
		apart := parted(s, want)
		if errno != api.OK || len(apart) > 200 {
			continue
		}
		held++
		l, from, e := Scan(apart)
		if !slices.Equal(bare(l), bare(want)) || from != 0 || e != api.OK {
			t.Fatalf("%q: %v; %q: %v %d %d", s, want, apart, l, from, e)
		}
		begins := 0
		for i, x := range l {
			if x.From != begins {
				t.Fatalf("%q: %d begins at %d, not %d", apart, i, x.From, begins)
			}
			begins += strings.IndexByte(apart[begins:], ' ') + 1
		}
	}
	if held < 10000 {
		t.Errorf("only %d texts were held", held)
	}
}

// P4.2: tokens that touch each other, and the same with a blank between
func TestTouch(t *testing.T) {
	tokens, _ := pieces()
	p := newPlain()
	for _, a := range tokens {
		for _, b := range tokens {
			l, from, e := Scan(a + " " + b + " ")
			first, _, _ := Scan(a)
			second, _, _ := Scan(b)
			if !slices.Equal(l, append(first, moved(second, len(a)+1)...)) || from != 0 || e != api.OK || len(l) != 2 {
				t.Errorf("%q %q: %v %d %d", a, b, l, from, e)
			}
			p.judge(t, a+b)
		}
	}
}

// Rule 4: what is answered is new memory
func TestNewMemory(t *testing.T) {
	const s = "SUM(A1:B2)<=7"
	a, _, _ := Scan(s)
	b, _, _ := Scan(s)
	for i := range a {
		a[i] = mark("?", -1)
	}
	_ = append(a, num(9, 9))
	want := []Token{called("SUM", 0), mark("(", 3), at(0, 0, 4), mark(":", 6), at(1, 1, 7), mark(")", 9), mark("<=", 10), num(7, 12)}
	if !slices.Equal(b, want) {
		t.Errorf("asked ahead: %v", b)
	}
	gives(t, s, want...)
}

// P2: what was asked ahead changes no answer
func TestSameAnswer(t *testing.T) {
	ask := func() string {
		l, from, e := Scan(" B2<=007  #REF SUM(Q1,>)<>-")
		m, where, errno := Scan("1+ SUM2")
		return fmt.Sprint(l, from, e, m, where, errno)
	}
	first := ask()
	Scan("")
	Scan("A1 <= <> >= 5")
	Scan("1 a")
	Scan("9223372036854775808")
	Scan(strings.Repeat("1", 201))
	if again := ask(); again != first {
		t.Errorf("%s, then %s", first, again)
	}
}
