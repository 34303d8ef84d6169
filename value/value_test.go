package value

import (
	"fmt"
	"math/big"
	"math/rand/v2"
	"regexp"
	"slices"
	"strings"
	"testing"

	"gridiron/api"
)

const (
	greatest = 1<<63 - 1
	least    = -1 << 63
)

func n(x int) api.Value { return api.Value{Num: x} }

func f(x api.Fault) api.Value { return api.Value{Fault: x} }

// allOps are the ops, and what each tells of two numbers without bounds: a number; nothing, where there is none.
func allOps() map[string]func(a, b *big.Int) *big.Int {
	is := func(so bool) *big.Int {
		if so {
			return big.NewInt(1)
		}
		return big.NewInt(0)
	}
	return map[string]func(a, b *big.Int) *big.Int{
		"+": func(a, b *big.Int) *big.Int { return new(big.Int).Add(a, b) },
		"-": func(a, b *big.Int) *big.Int { return new(big.Int).Sub(a, b) },
		"*": func(a, b *big.Int) *big.Int { return new(big.Int).Mul(a, b) },
		"/": func(a, b *big.Int) *big.Int {
			if b.Sign() == 0 {
				return nil
			}
			return new(big.Int).Quo(a, b)
		},
		"<":  func(a, b *big.Int) *big.Int { return is(a.Cmp(b) < 0) },
		"<=": func(a, b *big.Int) *big.Int { return is(a.Cmp(b) <= 0) },
		"=":  func(a, b *big.Int) *big.Int { return is(a.Cmp(b) == 0) },
		"<>": func(a, b *big.Int) *big.Int { return is(a.Cmp(b) != 0) },
		">=": func(a, b *big.Int) *big.Int { return is(a.Cmp(b) >= 0) },
		">":  func(a, b *big.Int) *big.Int { return is(a.Cmp(b) > 0) },
	}
}

// fitted is a whole number as a value: OVER, if it is too great, or too small; DIV, if there is none.
func fitted(x *big.Int) api.Value {
	if x == nil {
		return f(api.Div)
	}
	if !x.IsInt64() {
		return f(api.Over)
	}
	return n(int(x.Int64()))
}

// numbers are those near which something wraps round, and everyday ones.
func numbers() []int {
	l := []int{0, 3, 7, 9, 10, 41, 100, 3037000499, 3037000500}
	for shift := 0; shift < 63; shift += 3 {
		l = append(l, 1<<shift, 1<<shift-1, 1<<shift+1)
	}
	for _, x := range l {
		l = append(l, -x)
	}
	return append(l, least, least+1, least+2, greatest, greatest-1, greatest/2, least/2)
}

// faulty are values that are, whether they may be or not.
func faulty() []api.Value {
	var l []api.Value
	for _, fault := range []api.Fault{1, 2, 3, 4, 5, 6, 255, 256, 257, -1, -2, -255, 1 << 32, greatest, least} {
		for _, x := range []int{0, 1, -1, 7, greatest, least} {
			l = append(l, api.Value{Num: x, Fault: fault})
		}
	}
	return l
}

// doing tells whether an op makes of two values what is wanted.
func doing(t *testing.T, op string, a, b, want api.Value) {
	t.Helper()
	if v, ok := Do(op, a, b); v != want || !ok {
		t.Errorf("%v %s %v: %v %t, want %v", a, op, b, v, ok, want)
	}
}

// P3.1, V2: each op with numbers near which something wraps round, and with some made by a rule, of all sizes
func TestDo(t *testing.T) {
	r := rand.New(rand.NewPCG(5, 6))
	var pairs [][2]int
	for _, a := range numbers() {
		for _, b := range numbers() {
			pairs = append(pairs, [2]int{a, b})
		}
	}
	for range 20000 {
		pairs = append(pairs, [2]int{int(r.Uint64()) >> r.IntN(64), int(r.Uint64()) >> r.IntN(64)})
	}
	ops := allOps()
	if len(ops) != 10 {
		t.Fatalf("%d ops", len(ops))
	}
	for op, reckons := range ops {
		for _, x := range pairs {
			doing(t, op, n(x[0]), n(x[1]), fitted(reckons(big.NewInt(int64(x[0])), big.NewInt(int64(x[1])))))
		}
	}
}

// P3.1, V2: what the document names
func TestDoNamed(t *testing.T) {
	for _, x := range []struct {
		op         string
		a, b, want api.Value
	}{
		{"+", n(2), n(3), n(5)}, {"+", n(greatest), n(1), f(api.Over)}, {"+", n(least), n(-1), f(api.Over)}, {"+", n(least), n(greatest), n(-1)}, {"+", n(least), n(0), n(least)}, {"+", n(greatest), n(greatest), f(api.Over)},
		{"-", n(2), n(3), n(-1)}, {"-", n(0), n(least), f(api.Over)}, {"-", n(-1), n(least), n(greatest)}, {"-", n(greatest), n(-1), f(api.Over)}, {"-", n(least), n(1), f(api.Over)}, {"-", n(least), n(least), n(0)},
		{"*", n(-4), n(3), n(-12)}, {"*", n(least), n(-1), f(api.Over)}, {"*", n(-1), n(least), f(api.Over)}, {"*", n(greatest), n(-1), n(-greatest)}, {"*", n(0), n(least), n(0)}, {"*", n(greatest), n(greatest), f(api.Over)},
		{"/", n(7), n(2), n(3)}, {"/", n(-7), n(2), n(-3)}, {"/", n(7), n(-2), n(-3)}, {"/", n(-7), n(-2), n(3)}, {"/", n(least), n(-1), f(api.Over)}, {"/", n(least), n(1), n(least)}, {"/", n(greatest), n(least), n(0)},
		{"/", n(7), n(0), f(api.Div)}, {"/", n(0), n(0), f(api.Div)}, {"/", n(least), n(0), f(api.Div)}, {"/", n(greatest), n(0), f(api.Div)}, {"/", n(0), n(7), n(0)},
		{"<", n(2), n(3), n(1)}, {"<", n(3), n(3), n(0)}, {"<", n(4), n(3), n(0)}, {"<", n(least), n(greatest), n(1)}, {"<", n(greatest), n(least), n(0)},
		{"<=", n(2), n(3), n(1)}, {"<=", n(3), n(3), n(1)}, {"<=", n(4), n(3), n(0)}, {"<=", n(least), n(least), n(1)}, {"<=", n(greatest), n(least), n(0)},
		{"=", n(2), n(3), n(0)}, {"=", n(3), n(3), n(1)}, {"=", n(least), n(greatest), n(0)}, {"=", n(least), n(least), n(1)}, {"=", n(0), n(0), n(1)},
		{"<>", n(2), n(3), n(1)}, {"<>", n(3), n(3), n(0)}, {"<>", n(least), n(greatest), n(1)}, {"<>", n(greatest), n(greatest), n(0)},
		{">=", n(2), n(3), n(0)}, {">=", n(3), n(3), n(1)}, {">=", n(4), n(3), n(1)}, {">=", n(least), n(greatest), n(0)}, {">=", n(greatest), n(greatest), n(1)},
		{">", n(2), n(3), n(0)}, {">", n(3), n(3), n(0)}, {">", n(4), n(3), n(1)}, {">", n(greatest), n(least), n(1)}, {">", n(least), n(greatest), n(0)},
		{"+", f(api.Ref), f(api.Div), f(api.Ref)}, {"+", f(api.Div), f(api.Ref), f(api.Div)}, {"=", n(1), f(api.Cycle), f(api.Cycle)}, {"=", f(api.Ref), f(api.Ref), f(api.Ref)}, {"/", f(api.Over), n(0), f(api.Over)}, {"/", n(0), f(api.Ref), f(api.Ref)}, {"*", n(0), f(api.Cycle), f(api.Cycle)},
	} {
		doing(t, x.op, x.a, x.b, x.want)
	}
}

// P3.1, V2: of the first faulty one its fault, without a number, whatever op it is, and whatever the other one is
func TestDoFaulty(t *testing.T) {
	for op := range allOps() {
		for _, v := range faulty() {
			for _, x := range []int{0, 1, -1, 7, least, greatest} {
				doing(t, op, v, n(x), f(v.Fault))
				doing(t, op, n(x), v, f(v.Fault))
			}
			for _, w := range faulty() {
				doing(t, op, v, w, f(v.Fault))
			}
		}
	}
}

// P3.1, V2: texts that are no op, whatever the values are
func TestDoNone(t *testing.T) {
	texts := []string{"", " ", "==", "=>", "=<", "><", "!=", "<=>", "<<", ">>", "++", "--", "+-", "**", "//", "%", "^", "&", "|", "!", "~", ":", ",", "(", ")", "#REF", "1", "A1", "IF", "SUM", "neg", "add",
		"+ ", " +", "<= ", "< =", "+\x00", "\x00+", "+\n", "\u2212", "\u00d7", "\u00f7", "\u2264", "\u2260", "\u2265", "\uff0b", "\xff", strings.Repeat("+", 100000), strings.Repeat("<", 5000) + "="}
	ops := allOps()
	for a := range 256 {
		texts = append(texts, string([]byte{byte(a)}))
		for b := range 256 {
			texts = append(texts, string([]byte{byte(a), byte(b)}))
		}
	}
	for _, op := range texts {
		if ops[op] != nil {
			continue
		}
		for _, x := range [][2]api.Value{{n(1), n(1)}, {n(0), n(0)}, {f(api.Ref), n(1)}, {n(1), f(api.Div)}, {f(api.Over), f(api.Cycle)}, {{Num: 7, Fault: 9}, n(1)}} {
			if v, ok := Do(op, x[0], x[1]); v != n(0) || ok {
				t.Errorf("%.40q %v: %v %t", op, x, v, ok)
			}
		}
	}
}

// P3.1, V2
func TestNeg(t *testing.T) {
	for _, x := range numbers() {
		if v := Neg(n(x)); v != fitted(new(big.Int).Neg(big.NewInt(int64(x)))) {
			t.Errorf("%d: %v", x, v)
		}
	}
	for x, want := range map[int]api.Value{0: n(0), 5: n(-5), -5: n(5), greatest: n(-greatest), least + 1: n(greatest), least: f(api.Over)} {
		if v := Neg(n(x)); v != want {
			t.Errorf("%d: %v", x, v)
		}
	}
	for _, v := range faulty() {
		if w := Neg(v); w != f(v.Fault) {
			t.Errorf("%v: %v", v, w)
		}
	}
}

// P3.1, V2: lists that the document names
func TestAllNamed(t *testing.T) {
	type list []api.Value
	for _, x := range []struct {
		l                    list
		sum, least, greatest api.Value
	}{
		{nil, n(0), n(0), n(0)}, {list{}, n(0), n(0), n(0)},
		{list{n(0)}, n(0), n(0), n(0)}, {list{n(7)}, n(7), n(7), n(7)}, {list{n(-7)}, n(-7), n(-7), n(-7)}, {list{n(least)}, n(least), n(least), n(least)}, {list{n(greatest)}, n(greatest), n(greatest), n(greatest)},
		{list{n(1), n(2), n(-9)}, n(-6), n(-9), n(2)}, {list{n(3), n(3)}, n(6), n(3), n(3)}, {list{n(-3), n(-2)}, n(-5), n(-3), n(-2)}, {list{n(5), n(9)}, n(14), n(5), n(9)}, {list{n(9), n(5)}, n(14), n(5), n(9)},
		{list{n(least), n(greatest)}, n(-1), n(least), n(greatest)}, {list{n(greatest), n(least)}, n(-1), n(least), n(greatest)},
		{list{n(greatest), n(1)}, f(api.Over), n(1), n(greatest)}, {list{n(least), n(-1)}, f(api.Over), n(least), n(-1)},
		// what ran over doesn't come back, though the whole would be a number
		{list{n(greatest), n(1), n(-1)}, f(api.Over), n(-1), n(greatest)}, {list{n(greatest), n(-1), n(1)}, n(greatest), n(-1), n(greatest)}, {list{n(least), n(-1), n(1)}, f(api.Over), n(least), n(1)}, {list{n(least), n(least), n(greatest), n(greatest)}, f(api.Over), n(least), n(greatest)},
		// a faulty value ahead of what runs over, and behind it, and in its stead
		{list{n(greatest), n(1), f(api.Ref)}, f(api.Over), f(api.Ref), f(api.Ref)}, {list{n(greatest), f(api.Ref), n(1)}, f(api.Ref), f(api.Ref), f(api.Ref)}, {list{f(api.Ref), n(greatest), n(1)}, f(api.Ref), f(api.Ref), f(api.Ref)},
		{list{n(least), n(0), n(-1), f(api.Cycle)}, f(api.Over), f(api.Cycle), f(api.Cycle)}, {list{n(greatest), n(1), f(api.Over)}, f(api.Over), f(api.Over), f(api.Over)},
		{list{f(api.Div)}, f(api.Div), f(api.Div), f(api.Div)}, {list{n(1), f(api.Div), f(api.Ref)}, f(api.Div), f(api.Div), f(api.Div)}, {list{n(1), f(api.Ref), f(api.Div)}, f(api.Ref), f(api.Ref), f(api.Ref)}, {list{n(1), n(2), f(api.Cycle)}, f(api.Cycle), f(api.Cycle), f(api.Cycle)},
		// what may not be goes on as its fault, alone, first, last
		{list{{Num: 7, Fault: api.Div}}, f(api.Div), f(api.Div), f(api.Div)}, {list{{Num: 7, Fault: 9}}, f(9), f(9), f(9)}, {list{{Num: -7, Fault: -1}, n(2)}, f(-1), f(-1), f(-1)}, {list{n(2), {Num: greatest, Fault: 5}, f(api.Ref)}, f(5), f(5), f(5)},
	} {
		if v, w, z := Sum(x.l...), Least(x.l...), Greatest(x.l...); v != x.sum || w != x.least || z != x.greatest {
			t.Errorf("%v: %v %v %v, want %v %v %v", x.l, v, w, z, x.sum, x.least, x.greatest)
		}
	}
}

// summed is a list's sum, as the document tells it.
func summed(l []api.Value) api.Value {
	sum := new(big.Int)
	for _, v := range l {
		if v.Fault != api.Fine {
			return f(v.Fault)
		}
		sum.Add(sum, big.NewInt(int64(v.Num)))
		if !sum.IsInt64() {
			return f(api.Over)
		}
	}
	return fitted(sum)
}

// ends are a list's least and greatest one, as the document tells them.
func ends(l []api.Value) (api.Value, api.Value) {
	var nums []int
	for _, v := range l {
		if v.Fault != api.Fine {
			return f(v.Fault), f(v.Fault)
		}
		nums = append(nums, v.Num)
	}
	if len(nums) == 0 {
		return n(0), n(0)
	}
	return n(slices.Min(nums)), n(slices.Max(nums))
}

// some is a list of values made by a rule: numbers of all sizes, and seldom a fault.
func some(r *rand.Rand) []api.Value {
	wrong := faulty()
	l := make([]api.Value, r.IntN(8))
	for i := range l {
		l[i] = n(int(r.Uint64()) >> r.IntN(64))
		if r.IntN(12) == 0 {
			l[i] = wrong[r.IntN(len(wrong))]
		}
	}
	return l
}

// P3.1, V2: lists made by a rule; rule 4: what is handed in stays, and what lies behind it is not looked at
func TestAll(t *testing.T) {
	r := rand.New(rand.NewPCG(7, 8))
	for range 50000 {
		l := some(r)
		room := append(slices.Clone(l), f(api.Cycle), n(least), n(greatest))
		given := room[:len(l)]
		low, high := ends(l)
		if v, w, z := Sum(given...), Least(given...), Greatest(given...); v != summed(l) || w != low || z != high {
			t.Fatalf("%v: %v %v %v, want %v %v %v", l, v, w, z, summed(l), low, high)
		}
		if !slices.Equal(room, append(slices.Clone(l), f(api.Cycle), n(least), n(greatest))) {
			t.Fatalf("%v: now %v", l, room)
		}
	}
}

// P3.1, V2: a long list
func TestAllLong(t *testing.T) {
	l := slices.Repeat([]api.Value{n(3), n(-1)}, 500000)
	if v, w, z := Sum(l...), Least(l...), Greatest(l...); v != n(1000000) || w != n(-1) || z != n(3) {
		t.Errorf("%v %v %v", v, w, z)
	}
	l = append(l, f(api.Div), f(api.Ref))
	if v, w, z := Sum(l...), Least(l...), Greatest(l...); v != f(api.Div) || w != f(api.Div) || z != f(api.Div) {
		t.Errorf("%v %v %v", v, w, z)
	}
}

// P3.1, V1
func TestRightText(t *testing.T) {
	for v, want := range map[api.Value]string{n(0): "0", n(7): "7", n(-5): "-5", n(greatest): "9223372036854775807", n(least): "-9223372036854775808", f(api.Over): "#OVER", f(api.Div): "#DIV", f(api.Ref): "#REF", f(api.Cycle): "#CYCLE"} {
		if !Right(v) || Text(v) != want {
			t.Errorf("%v: %t %q", v, Right(v), Text(v))
		}
	}
	for _, x := range numbers() {
		if !Right(n(x)) || Text(n(x)) != fmt.Sprint(x) {
			t.Errorf("%d: %t %q", x, Right(n(x)), Text(n(x)))
		}
	}
	for _, v := range faulty() {
		may := v.Num == 0 && v.Fault >= 1 && v.Fault <= 4
		if Right(v) != may || (Text(v) != "") != may {
			t.Errorf("%v: %t %q", v, Right(v), Text(v))
		}
	}
}

// P3.1, V1: texts that are no value's
func TestParseNone(t *testing.T) {
	for _, s := range []string{
		"", " ", "#", "##", "#O", "#OVE", "#OVERS", "#OVER ", " #OVER", "#over", "#Over", "OVER", "##OVER", "#OVER#", "#OVER\x00", "#OVER\n", "#DI", "#DIVS", "#DIV ", "#DIV/0!", "DIV", "#div", "#REF!", "#ref", "#RE", "REF", "#CYC", "#CYCLE ", "#CYCLES", "CYCLE", "#cycle",
		"#FINE", "#OK", "#0", "#1", "#NUM", "#VALUE", "#OVER#DIV", "#REF0", "0#REF", "\uff03REF", "#\u212fF", "#REF\xff",
		"05", "-0", "+5", "-", "+", "--5", " 5", "5 ", "5\n", "0x5", "5e1", "5.0", "1_0", "A1", "true", "\u0665", "9223372036854775808", "-9223372036854775809", "18446744073709551616",
		strings.Repeat("#", 100000), "#OVER" + strings.Repeat("R", 100000), strings.Repeat("9", 100000), strings.Repeat("0", 2000),
	} {
		if v, ok := Parse(s); v != n(0) || ok {
			t.Errorf("%.40q: %v %t", s, v, ok)
		}
	}
}

// P3.1, V1: each fault's text with a byte changed, gone, or come in; each short text of such bytes
func TestParseShort(t *testing.T) {
	form := regexp.MustCompile(`\A(0|-?[1-9][0-9]*|#OVER|#DIV|#REF|#CYCLE)\z`)
	texts := []string{""}
	for from, n := 0, 0; n < 4; n++ {
		to := len(texts)
		for _, s := range texts[from:to] {
			for _, c := range "019-#REFDIV " {
				texts = append(texts, s+string(c))
			}
		}
		from = to
	}
	for _, s := range []string{"#OVER", "#DIV", "#REF", "#CYCLE"} {
		for i := range len(s) {
			texts = append(texts, s[:i]+s[i+1:])
			for c := range 256 {
				one := string([]byte{byte(c)})
				texts = append(texts, s[:i]+one+s[i:], s[:i]+one+s[i+1:], s+one)
			}
		}
	}
	for _, s := range texts {
		v, ok := Parse(s)
		if ok != form.MatchString(s) {
			t.Errorf("%q: %t", s, ok)
		}
		if ok && (!Right(v) || Text(v) != s) || !ok && v != n(0) {
			t.Errorf("%q: %v %q", s, v, Text(v))
		}
	}
}

// P3.2: a value that may be is parsed from its text
func TestThereAndBack(t *testing.T) {
	l := []api.Value{f(api.Over), f(api.Div), f(api.Ref), f(api.Cycle)}
	for _, x := range numbers() {
		l = append(l, n(x))
	}
	r := rand.New(rand.NewPCG(9, 10))
	for range 50000 {
		l = append(l, n(int(r.Uint64())>>r.IntN(64)))
	}
	for _, v := range l {
		if w, ok := Parse(Text(v)); w != v || !ok {
			t.Errorf("%v: %q %v %t", v, Text(v), w, ok)
		}
	}
}

// P3.2: what is made of values that may be may be, as well
func TestMade(t *testing.T) {
	r := rand.New(rand.NewPCG(11, 12))
	for range 20000 {
		l := slices.DeleteFunc(some(r), func(v api.Value) bool { return !Right(v) })
		made := []api.Value{Sum(l...), Least(l...), Greatest(l...)}
		for _, a := range l {
			made = append(made, Neg(a))
			for op := range allOps() {
				v, _ := Do(op, a, l[0])
				made = append(made, v)
			}
		}
		for _, v := range made {
			if !Right(v) {
				t.Fatalf("%v: %v", l, v)
			}
		}
	}
}

// P2: what was asked ahead changes no answer
func TestSameAnswer(t *testing.T) {
	ask := func() string {
		var l []any
		for _, op := range []string{"+", "-", "*", "/", "<", "<=", "=", "<>", ">=", ">", "=="} {
			v, ok := Do(op, n(7), n(-2))
			l = append(l, v, ok)
		}
		v, ok := Parse("#DIV")
		return fmt.Sprint(append(l, v, ok, Neg(n(5)), Sum(n(1), n(2)), Least(n(4), n(3)), Greatest(n(4), n(3)), Sum(), Least(), Greatest(), Text(f(api.Ref))))
	}
	first := ask()
	Do("/", n(1), n(0))
	Do("%", f(api.Ref), n(0))
	Parse("#OVE")
	Sum(n(greatest), n(1))
	Least(f(api.Cycle))
	Greatest(f(9))
	Text(f(5))
	if again := ask(); again != first {
		t.Errorf("%s, then %s", first, again)
	}
}
