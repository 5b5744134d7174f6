package print

import (
	"strconv"

	"whittler/api"
)

// operator is how an operator is written, and how close it binds: the higher, the closer.
type operator struct {
	sign  string
	level int
}

// closest is the level of all that needs no parentheses anywhere.
const closest = 7

var operators = [...]operator{
	api.XNumber: {"", closest},
	api.XName:   {"", closest},
	api.XNeg:    {"-", closest},
	api.XNot:    {"!", closest},
	api.XMul:    {"*", 6},
	api.XDiv:    {"/", 6},
	api.XRem:    {"%", 6},
	api.XAdd:    {"+", 5},
	api.XSub:    {"-", 5},
	api.XLess:   {"<", 4},
	api.XLessEq: {"<=", 4},
	api.XMore:   {">", 4},
	api.XMoreEq: {">=", 4},
	api.XEq:     {"==", 3},
	api.XNotEq:  {"!=", 3},
	api.XAnd:    {"&&", 2},
	api.XOr:     {"||", 1},
}

func (w *writer) expr(x api.Expr) {
	sign, level := operators[x.Op].sign, operators[x.Op].level
	switch {
	case x.Op == api.XNumber:
		w.put(strconv.FormatInt(x.N, 10))
	case x.Op == api.XName:
		w.put(x.Name)
	case len(x.Kids) == 1:
		w.put(sign)
		w.operand(x.Kids[0], closest)
	default:
		w.operand(x.Kids[0], level)
		w.put(" ", sign, " ")
		// On the right an operator of the same level would be read as the outer one.
		w.operand(x.Kids[1], level+1)
	}
}

// operand puts an operand, in parentheses if it binds less close than it must to stand alone.
func (w *writer) operand(x api.Expr, least int) {
	if operators[x.Op].level < least {
		w.enclosed(x)
	} else {
		w.expr(x)
	}
}

func (w *writer) enclosed(x api.Expr) {
	w.put("(")
	w.expr(x)
	w.put(")")
}
