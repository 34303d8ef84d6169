package num

import (
	"math/big"
	"math/rand/v2"
	"regexp"
	"strings"
	"testing"
)

const most = 1<<63 - 1

type call func(a, b int) (int, bool)

// edges are numbers near which something wraps round, and everyday ones.
func edges() []int {
	l := []int{0, 3, 7, 9, 10, 41, 100, 999, 3037000499, 3037000500}
	for shift := 0; shift < 63; shift++ {
		l = append(l, 1<<shift, 1<<shift-1, 1<<shift+1)
	}
	for _, n := range l {
		l = append(l, -n)
	}
	return append(l, least, least+1, least+2, most, most-1, most/2, least/2, most/3, least/3)
}

// pairs goes through all pairs of edges, and through some made by a rule, of all sizes.
func pairs(yield func(a, b int) bool) {
	l := edges()
	for _, a := range l {
		for _, b := range l {
			if !yield(a, b) {
				return
			}
		}
	}
	r := rand.New(rand.NewPCG(1, 2))
	for range 200000 {
		a, b := int(r.Uint64())>>r.IntN(64), int(r.Uint64())>>r.IntN(64)
		if !yield(a, b) {
			return
		}
	}
}

// held tells whether an answer is the whole number that was reckoned without bounds.
func held(t *testing.T, what string, a, b int, want *big.Int, got int, ok bool) {
	t.Helper()
	if want == nil || !want.IsInt64() {
		if got != 0 || ok {
			t.Errorf("%s %d %d: %d %t, want none", what, a, b, got, ok)
		}
	} else if int64(got) != want.Int64() || !ok {
		t.Errorf("%s %d %d: %d %t, want %s", what, a, b, got, ok, want)
	}
}

// P1.1, N1
func TestReckoned(t *testing.T) {
	for a, b := range pairs {
		x, y := big.NewInt(int64(a)), big.NewInt(int64(b))
		n, ok := Add(a, b)
		held(t, "Add", a, b, new(big.Int).Add(x, y), n, ok)
		n, ok = Sub(a, b)
		held(t, "Sub", a, b, new(big.Int).Sub(x, y), n, ok)
		n, ok = Mul(a, b)
		held(t, "Mul", a, b, new(big.Int).Mul(x, y), n, ok)
		var quotient *big.Int
		if b != 0 {
			quotient = new(big.Int).Quo(x, y)
		}
		n, ok = Div(a, b)
		held(t, "Div", a, b, quotient, n, ok)
		n, ok = Neg(a)
		held(t, "Neg", a, 0, new(big.Int).Neg(x), n, ok)
		if t.Failed() {
			return
		}
	}
}

// P1.1, N1: what the document names
func TestNamed(t *testing.T) {
	for _, x := range []struct {
		what string
		does call
		a, b int
		want int
		ok   bool
	}{
		{"Add", Add, most, 1, 0, false}, {"Add", Add, least, -1, 0, false}, {"Add", Add, most, 0, most, true}, {"Add", Add, least, 0, least, true},
		{"Add", Add, least, most, -1, true}, {"Add", Add, least, least, 0, false}, {"Add", Add, most, most, 0, false}, {"Add", Add, -1, 1, 0, true},
		{"Sub", Sub, least, 1, 0, false}, {"Sub", Sub, most, -1, 0, false}, {"Sub", Sub, 0, least, 0, false}, {"Sub", Sub, -1, least, most, true},
		{"Sub", Sub, least, least, 0, true}, {"Sub", Sub, most, most, 0, true}, {"Sub", Sub, -1, most, least, true}, {"Sub", Sub, -2, most, 0, false},
		{"Mul", Mul, least, -1, 0, false}, {"Mul", Mul, -1, least, 0, false}, {"Mul", Mul, least, 1, least, true}, {"Mul", Mul, least, 0, 0, true},
		{"Mul", Mul, 0, least, 0, true}, {"Mul", Mul, most, -1, -most, true}, {"Mul", Mul, most, 2, 0, false}, {"Mul", Mul, 1 << 32, 1 << 32, 0, false},
		{"Div", Div, -7, 2, -3, true}, {"Div", Div, 7, -2, -3, true}, {"Div", Div, -7, -2, 3, true}, {"Div", Div, 1, 2, 0, true}, {"Div", Div, -1, 2, 0, true},
		{"Div", Div, least, -1, 0, false}, {"Div", Div, least, 1, least, true}, {"Div", Div, most, -1, -most, true}, {"Div", Div, least, least, 1, true},
		{"Div", Div, 5, 0, 0, false}, {"Div", Div, 0, 0, 0, false}, {"Div", Div, least, 0, 0, false}, {"Div", Div, 0, -1, 0, true},
	} {
		if n, ok := x.does(x.a, x.b); n != x.want || ok != x.ok {
			t.Errorf("%s %d %d: %d %t", x.what, x.a, x.b, n, ok)
		}
	}
	if n, ok := Neg(least); n != 0 || ok {
		t.Errorf("Neg of the least one: %d %t", n, ok)
	}
}

// P1.1, N2
func TestText(t *testing.T) {
	for n, want := range map[int]string{
		0: "0", 7: "7", -7: "-7", 10: "10", -100: "-100",
		most: "9223372036854775807", least: "-9223372036854775808",
	} {
		if s := Text(n); s != want {
			t.Errorf("Text %d: %q", n, s)
		}
	}
	for n := range pairs {
		if s := Text(n); s != big.NewInt(int64(n)).String() {
			t.Fatalf("Text %d: %q", n, s)
		}
	}
}

// P1.1, N2: texts that are no number's
func TestParseNone(t *testing.T) {
	for _, s := range []string{
		"", "-", "+", "--1", "-0", "+0", "+7", "00", "07", "-07", "007", "0x1", "1_0", "1_000", "1e3", "1.0", ".", "- 7", " 7", "7 ", "7\n", "\t7", "7\x00", "\x007",
		"a", "7a", "0b1", "0o7", "inf", "NaN", "\u0661", "\uff17", "\u22127", "\xff", "7\xff", "1,000",
		"9223372036854775808", "-9223372036854775809", "18446744073709551616", "18446744073709551623", "-18446744073709551616", "10000000000000000000",
		"09223372036854775807", "00000000000000000000000000000001",
		strings.Repeat("0", 2000), strings.Repeat("9", 2000), "-" + strings.Repeat("1", 100000), strings.Repeat("-", 5000),
	} {
		if n, ok := Parse(s); n != 0 || ok {
			t.Errorf("Parse %.40q: %d %t", s, n, ok)
		}
	}
}

// P1.1, N2: each short text of such bytes
func TestParseShort(t *testing.T) {
	form := regexp.MustCompile(`^(0|-?[1-9][0-9]*)$`)
	texts := []string{""}
	for from, n := 0, 0; n < 4; n++ {
		to := len(texts)
		for _, s := range texts[from:to] {
			for _, c := range "0189-+_ x.e" {
				texts = append(texts, s+string(c))
			}
		}
		from = to
	}
	for _, s := range texts {
		n, ok := Parse(s)
		if ok != form.MatchString(s) {
			t.Errorf("Parse %q: %t", s, ok)
		}
		if ok && Text(n) != s || !ok && n != 0 {
			t.Errorf("Parse %q: %d", s, n)
		}
	}
}

// P1.2
func TestBackAgain(t *testing.T) {
	for a, b := range pairs {
		if sum, ok := Add(a, b); ok {
			again(t, "Add, Sub", a, b, Sub, sum, b)
		}
		if rest, ok := Sub(a, b); ok {
			again(t, "Sub, Add", a, b, Add, rest, b)
		}
		if product, ok := Mul(a, b); ok && b != 0 {
			again(t, "Mul, Div", a, b, Div, product, b)
		}
		if quotient, ok := Div(a, b); ok {
			product, fits := Mul(quotient, b)
			left := a % b
			if !fits {
				t.Errorf("Div, Mul %d %d: none", a, b)
			}
			again(t, "Div, Mul, Add", a, b, Add, product, left)
		}
		if n, ok := Neg(a); ok {
			again(t, "Neg, Sub", a, 0, Sub, 0, n)
		}
		if n, ok := Parse(Text(a)); n != a || !ok {
			t.Errorf("Text, Parse %d: %d %t", a, n, ok)
		}
		if t.Failed() {
			return
		}
	}
}

// again tells whether a call comes back to a.
func again(t *testing.T, what string, a, b int, does call, x, y int) {
	t.Helper()
	if n, ok := does(x, y); n != a || !ok {
		t.Errorf("%s %d %d: %d %t", what, a, b, n, ok)
	}
}

// P2: what was asked ahead changes no answer
func TestSameAnswer(t *testing.T) {
	for i, does := range []call{Add, Sub, Mul, Div} {
		for _, x := range [][2]int{{7, -2}, {least, -1}, {most, 2}, {5, 0}} {
			n, ok := does(x[0], x[1])
			Parse("9223372036854775808")
			Mul(most, most)
			if m, also := does(x[0], x[1]); m != n || also != ok {
				t.Errorf("%d %v: %d %t, then %d %t", i, x, n, ok, m, also)
			}
		}
	}
}
