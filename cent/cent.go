// Package cent is layer 1: see shared/doc/01-cent.md.
package cent

import (
	"strconv"

	"comptroller/api"
)

// Add answers a and b together.
func Add(a, b int64) (int64, api.Errno) {
	sum := a + b
	// Sums wrap round: one that went the other way than b pulls did not fit.
	if b > 0 && sum < a || b < 0 && sum > a {
		return 0, api.ErrOver
	}
	return sum, api.OK
}

// Sub answers a less b. It is not Add of Neg: -(2^63) has no other sign, but may be taken away.
func Sub(a, b int64) (int64, api.Errno) {
	rest := a - b
	if b > 0 && rest > a || b < 0 && rest < a {
		return 0, api.ErrOver
	}
	return rest, api.OK
}

// Neg answers a with the other sign.
func Neg(a int64) (int64, api.Errno) {
	return Sub(0, a)
}

// Sum answers all of l together. It goes from the first one on, since a sum on
// the way that does not fit is an error even if the whole would fit.
func Sum(l []int64) (int64, api.Errno) {
	var sum int64
	for _, a := range l {
		next, e := Add(sum, a)
		if e != api.OK {
			return 0, e
		}
		sum = next
	}
	return sum, api.OK
}

// Print answers the one text that a has.
func Print(a int64) string {
	return strconv.FormatInt(a, 10)
}

// Parse answers the amount whose text s is.
func Parse(s string) (int64, api.Errno) {
	// The form is asked by itself, ahead of the size: strconv also takes "+1", "-0" and "012".
	if !isWholeNumber(s) {
		return 0, api.ErrForm
	}
	a, err := strconv.ParseInt(s, 10, 64)
	if err != nil {
		return 0, api.ErrOver
	}
	return a, api.OK
}

// isWholeNumber tells whether s is the text of a whole number, of any size.
func isWholeNumber(s string) bool {
	if s == "0" {
		return true
	}
	if s != "" && s[0] == '-' {
		s = s[1:]
	}
	return s != "" && s[0] != '0' && allDigits(s)
}

func allDigits(s string) bool {
	for i := range len(s) {
		if s[i] < '0' || s[i] > '9' {
			return false
		}
	}
	return true
}
