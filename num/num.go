// Package num is layer 1: numbers that are told, if they are any (shared/doc/01-num.md).
package num

import "strconv"

const least = -1 << 63

// Add is both, added; 0, false, if that is no number.
func Add(a, b int) (int, bool) {
	c := a + b
	over := all(a > 0, b > 0, c < 0)
	under := all(a < 0, b < 0, c >= 0)
	return told(c, all(!over, !under))
}

// Sub is the first, less the second; 0, false, if that is no number.
func Sub(a, b int) (int, bool) {
	c := a - b
	over := all(a >= 0, b < 0, c < 0)
	under := all(a < 0, b > 0, c >= 0)
	return told(c, all(!over, !under))
}

// Mul is both, multiplied; 0, false, if that is no number.
func Mul(a, b int) (int, bool) {
	if b == 0 {
		return 0, true
	}
	// A product that wrapped round is not divided back to what it came of.
	c := a * b
	back, ok := Div(c, b)
	return told(c, all(ok, back == a))
}

// Div is the first by the second, toward 0; 0, false, if that is no number, or by 0.
func Div(a, b int) (int, bool) {
	if b == 0 {
		return 0, false
	}
	return told(a/b, !all(a == least, b == -1))
}

// Neg is 0 less a number; 0, false, if that is no number.
func Neg(a int) (int, bool) { return Sub(0, a) }

// Text is a number's: its figures, with a - ahead, if it is below 0.
func Text(a int) string { return strconv.Itoa(a) }

// Parse is the number whose text it is; 0, false, if it is none's.
func Parse(s string) (int, bool) {
	n, err := strconv.Atoi(s)
	// Atoi reads more than numbers' texts: noughts ahead, a +, -0.
	return told(n, all(err == nil, Text(n) == s))
}

// told keeps back what was reckoned, where it is no number.
func told(n int, is bool) (int, bool) {
	if !is {
		return 0, false
	}
	return n, true
}

// all tells whether each of several conditions holds.
func all(conditions ...bool) bool {
	for _, holds := range conditions {
		if !holds {
			return false
		}
	}
	return true
}
