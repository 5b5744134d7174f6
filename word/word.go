// Package word: the operators of MiniC-J on 64-bit integers that wrap around: see doc/01-word.md.
package word

import (
	"whittler/api"
)

// One answers a unary operator's result; false for every op that is none.
func One(op int, a int64) (int64, bool) {
	switch op {
	case api.XNeg:
		return 0 - a, true
	case api.XNot:
		return bit(!Truth(a)), true
	}
	return 0, false
}

// Two answers a binary operator's result; false for a division by 0 and for every op that is none.
func Two(op int, a, b int64) (int64, bool) {
	switch op {
	case api.XAdd:
		return a + b, true
	case api.XSub:
		return a - b, true
	case api.XMul:
		return a * b, true
	case api.XDiv, api.XRem:
		return divide(op, a, b)
	case api.XLess:
		return bit(a < b), true
	case api.XLessEq:
		return bit(a <= b), true
	case api.XMore:
		return bit(a > b), true
	case api.XMoreEq:
		return bit(a >= b), true
	case api.XEq:
		return bit(a == b), true
	case api.XNotEq:
		return bit(a != b), true
	case api.XAnd:
		return bit(Truth(a) && Truth(b)), true
	case api.XOr:
		return bit(Truth(a) || Truth(b)), true
	}
	return 0, false
}

// Truth reports whether a number counts as true.
func Truth(a int64) bool { return a != 0 }

// divide answers the quotient (XDiv) or the remainder (XRem). Only a divisor of 0 needs care:
// Go itself truncates towards 0, and wraps -2^63 / -1 round to -2^63 with remainder 0.
func divide(op int, a, b int64) (int64, bool) {
	if b == 0 {
		return 0, false
	}
	if op == api.XRem {
		return a % b, true
	}
	return a / b, true
}

func bit(holds bool) int64 {
	if holds {
		return 1
	}
	return 0
}
