package word

import (
	"math"
	"math/big"
	"testing"

	"whittler/api"
)

const low, high = math.MinInt64, math.MaxInt64

// edges lie where a wrong sign, a wrong rounding or a missing wrap-around shows.
var edges = []int64{
	low, low + 1, low + 2, low / 2, low/2 - 1, low/2 + 1, -(1 << 32), -(1 << 31), -10, -7, -3, -2, -1,
	0, 1, 2, 3, 7, 10, 1 << 31, 1 << 32, 3037000499, 3037000500, high / 2, high/2 + 1, high - 2, high - 1, high,
}

// others are no operators at all, or kinds of expressions that are none.
var others = []int{math.MinInt, math.MinInt32, -17, -4, -3, -1, 0, api.XNumber, api.XName, 18, 19, 100, 1<<32 + api.XNeg, 1<<32 + api.XAdd, math.MaxInt32, math.MaxInt}

func TestOneByHand(t *testing.T) {
	for _, x := range []struct {
		op      int
		a, want int64
	}{
		{api.XNeg, 0, 0}, {api.XNeg, 1, -1}, {api.XNeg, -1, 1}, {api.XNeg, 42, -42}, {api.XNeg, -42, 42},
		{api.XNeg, high, low + 1}, {api.XNeg, low + 1, high}, {api.XNeg, low, low},
		{api.XNot, 0, 1}, {api.XNot, 1, 0}, {api.XNot, -1, 0}, {api.XNot, 2, 0}, {api.XNot, 1 << 32, 0}, {api.XNot, high, 0}, {api.XNot, low, 0},
	} {
		got, ok := One(x.op, x.a)
		if got != x.want || !ok {
			t.Errorf("P1.1: One(%d, %d) = %d, %t; want %d, true", x.op, x.a, got, ok, x.want)
		}
	}
}

func TestOneRefusesOtherOps(t *testing.T) {
	ops := append([]int(nil), others...)
	for op := api.XMul; op <= api.XOr; op++ {
		ops = append(ops, op)
	}
	for _, op := range ops {
		for _, a := range edges {
			if got, ok := One(op, a); got != 0 || ok {
				t.Errorf("P1.1: One(%d, %d) = %d, %t; want 0, false", op, a, got, ok)
			}
		}
	}
}

func TestTwoByHand(t *testing.T) {
	for _, x := range []struct {
		op         int
		a, b, want int64
	}{
		{api.XAdd, 2, 3, 5}, {api.XAdd, -2, 3, 1}, {api.XAdd, high, 1, low}, {api.XAdd, high, high, -2}, {api.XAdd, low, -1, high}, {api.XAdd, low, low, 0}, {api.XAdd, low, high, -1},
		{api.XSub, 2, 3, -1}, {api.XSub, 3, -2, 5}, {api.XSub, low, 1, high}, {api.XSub, high, -1, low}, {api.XSub, 0, low, low}, {api.XSub, high, low, -1}, {api.XSub, low, high, 1},
		{api.XMul, 6, 7, 42}, {api.XMul, -6, 7, -42}, {api.XMul, -6, -7, 42}, {api.XMul, high, 2, -2}, {api.XMul, high, high, 1}, {api.XMul, low, 2, 0}, {api.XMul, low, -1, low}, {api.XMul, low, low, 0}, {api.XMul, 1 << 32, 1 << 31, low}, {api.XMul, 1 << 32, 1 << 32, 0},
		{api.XDiv, 7, 2, 3}, {api.XDiv, -7, 2, -3}, {api.XDiv, 7, -2, -3}, {api.XDiv, -7, -2, 3}, {api.XDiv, 0, 5, 0}, {api.XDiv, 1, 2, 0}, {api.XDiv, -1, 2, 0}, {api.XDiv, low, -1, low}, {api.XDiv, low, 1, low}, {api.XDiv, low, low, 1}, {api.XDiv, high, -1, low + 1}, {api.XDiv, high, low, 0}, {api.XDiv, low, high, -1},
		{api.XRem, 7, 2, 1}, {api.XRem, -7, 2, -1}, {api.XRem, 7, -2, 1}, {api.XRem, -7, -2, -1}, {api.XRem, 6, 3, 0}, {api.XRem, -6, 3, 0}, {api.XRem, 0, 5, 0}, {api.XRem, low, -1, 0}, {api.XRem, low, 1, 0}, {api.XRem, high, low, high}, {api.XRem, low, high, -1},
		{api.XLess, 1, 2, 1}, {api.XLess, 2, 2, 0}, {api.XLess, 3, 2, 0}, {api.XLess, low, high, 1}, {api.XLess, high, low, 0}, {api.XLess, -1, 0, 1},
		{api.XLessEq, 1, 2, 1}, {api.XLessEq, 2, 2, 1}, {api.XLessEq, 3, 2, 0}, {api.XLessEq, low, high, 1}, {api.XLessEq, high, low, 0},
		{api.XMore, 1, 2, 0}, {api.XMore, 2, 2, 0}, {api.XMore, 3, 2, 1}, {api.XMore, low, high, 0}, {api.XMore, high, low, 1},
		{api.XMoreEq, 1, 2, 0}, {api.XMoreEq, 2, 2, 1}, {api.XMoreEq, 3, 2, 1}, {api.XMoreEq, low, high, 0}, {api.XMoreEq, high, low, 1},
		{api.XEq, 2, 2, 1}, {api.XEq, 2, 3, 0}, {api.XEq, low, low, 1}, {api.XEq, low, high, 0}, {api.XEq, 0, 1 << 32, 0},
		{api.XNotEq, 2, 2, 0}, {api.XNotEq, 2, 3, 1}, {api.XNotEq, low, low, 0}, {api.XNotEq, low, high, 1}, {api.XNotEq, 0, 1 << 32, 1},
		{api.XAnd, 0, 0, 0}, {api.XAnd, 0, 5, 0}, {api.XAnd, 5, 0, 0}, {api.XAnd, 1, 2, 1}, {api.XAnd, low, high, 1}, {api.XAnd, -1, 1 << 32, 1},
		{api.XOr, 0, 0, 0}, {api.XOr, 0, 5, 1}, {api.XOr, 5, 0, 1}, {api.XOr, 3, 4, 1}, {api.XOr, low, 0, 1}, {api.XOr, 0, 1 << 32, 1},
	} {
		got, ok := Two(x.op, x.a, x.b)
		if got != x.want || !ok {
			t.Errorf("P1.1: Two(%d, %d, %d) = %d, %t; want %d, true", x.op, x.a, x.b, got, ok, x.want)
		}
	}
}

func TestTwoRefusesZeroDivisor(t *testing.T) {
	for _, op := range []int{api.XDiv, api.XRem} {
		for _, a := range edges {
			if got, ok := Two(op, a, 0); got != 0 || ok {
				t.Errorf("P1.1: Two(%d, %d, 0) = %d, %t; want 0, false", op, a, got, ok)
			}
		}
	}
}

func TestTwoRefusesOtherOps(t *testing.T) {
	for _, op := range append([]int{api.XNeg, api.XNot}, others...) {
		for _, a := range edges {
			for _, b := range edges {
				if got, ok := Two(op, a, b); got != 0 || ok {
					t.Errorf("P1.1: Two(%d, %d, %d) = %d, %t; want 0, false", op, a, b, got, ok)
				}
			}
		}
	}
}

// wrapped brings a number of any size modulo 2^64 into the range of int64.
func wrapped(x *big.Int) int64 {
	half := new(big.Int).Lsh(big.NewInt(1), 63)
	full := new(big.Int).Lsh(big.NewInt(1), 64)
	x = new(big.Int).Mod(new(big.Int).Add(x, half), full)
	return x.Sub(x, half).Int64()
}

// exact computes without any bound, and wraps only at the end, as the chapter words it.
func exact(op int, a, b int64) (int64, bool) {
	x, y, z := big.NewInt(a), big.NewInt(b), new(big.Int)
	switch op {
	case api.XAdd:
		return wrapped(z.Add(x, y)), true
	case api.XSub:
		return wrapped(z.Sub(x, y)), true
	case api.XMul:
		return wrapped(z.Mul(x, y)), true
	}
	if b == 0 {
		return 0, false
	}
	if op == api.XDiv {
		return wrapped(z.Quo(x, y)), true
	}
	return wrapped(z.Rem(x, y)), true
}

func TestArithmeticIsExactModulo(t *testing.T) {
	for _, a := range edges {
		want := wrapped(new(big.Int).Neg(big.NewInt(a)))
		if got, ok := One(api.XNeg, a); got != want || !ok {
			t.Errorf("P1.1: One(XNeg, %d) = %d, %t; want %d, true", a, got, ok, want)
		}
		for _, b := range edges {
			for op := api.XMul; op <= api.XSub; op++ {
				want, may := exact(op, a, b)
				if got, ok := Two(op, a, b); got != want || ok != may {
					t.Errorf("P1.1: Two(%d, %d, %d) = %d, %t; want %d, %t", op, a, b, got, ok, want, may)
				}
			}
		}
	}
}

func TestComparisonsAgree(t *testing.T) {
	// Columns: the signs -1, 0 and 1 of a compared with b.
	want := map[int][3]int64{
		api.XLess: {1, 0, 0}, api.XLessEq: {1, 1, 0}, api.XMore: {0, 0, 1},
		api.XMoreEq: {0, 1, 1}, api.XEq: {0, 1, 0}, api.XNotEq: {1, 0, 1},
	}
	for _, a := range edges {
		for _, b := range edges {
			sign := big.NewInt(a).Cmp(big.NewInt(b))
			for op, row := range want {
				if got, ok := Two(op, a, b); got != row[sign+1] || !ok {
					t.Errorf("P1.1: Two(%d, %d, %d) = %d, %t; want %d, true", op, a, b, got, ok, row[sign+1])
				}
			}
		}
	}
}

func TestTruth(t *testing.T) {
	for _, a := range edges {
		if got := Truth(a); got != (a != 0) {
			t.Errorf("P1.1: Truth(%d) = %t", a, got)
		}
	}
}
