package parse

import (
	"whittler/api"
	"whittler/tree"
)

// whole reads the expression of a statement or of an argument.
func (r *reader) whole() api.Expr {
	from := r.token().At
	x := r.expr(0)
	// A tree that has been read can only be too deep. Whether it is, shows when it is complete.
	if !tree.MayExpr(x) {
		r.fail(api.ErrLimit, from)
	}
	return x
}

// expr reads an operand, and each operator behind it that binds closer than the level, with its
// right side.
func (r *reader) expr(level int) api.Expr {
	x := r.operand()
	for {
		op, its := operator(r.token().Text)
		if its <= level {
			return x
		}
		r.at++
		// On the right an operator of the same level is left alone, to take x as its left side.
		y := r.expr(its)
		x = api.Expr{Op: op, Kids: []api.Expr{x, y}}
	}
}

// operator answers the kind of a binary operator and how close it binds; 0 if a text is none.
func operator(text string) (op, level int) {
	switch text {
	case "*":
		return api.XMul, 6
	case "/":
		return api.XDiv, 6
	case "%":
		return api.XRem, 6
	case "+":
		return api.XAdd, 5
	case "-":
		return api.XSub, 5
	case "<":
		return api.XLess, 4
	case "<=":
		return api.XLessEq, 4
	case ">":
		return api.XMore, 4
	case ">=":
		return api.XMoreEq, 4
	case "==":
		return api.XEq, 3
	case "!=":
		return api.XNotEq, 3
	case "&&":
		return api.XAnd, 2
	case "||":
		return api.XOr, 1
	}
	return 0, 0
}

// operand reads what binds closer than every binary operator. It calls itself at most once for a
// token, and a text has no more than MaxTokens.
func (r *reader) operand() api.Expr {
	token := r.token()
	switch {
	case r.skip("-"):
		return api.Expr{Op: api.XNeg, Kids: []api.Expr{r.operand()}}
	case r.skip("!"):
		return api.Expr{Op: api.XNot, Kids: []api.Expr{r.operand()}}
	case r.skip("("):
		x := r.expr(0)
		r.want(")")
		return x
	case token.Kind == api.TNumber:
		r.at++
		return api.Expr{Op: api.XNumber, N: token.N}
	}
	return api.Expr{Op: api.XName, Name: r.name()}
}
