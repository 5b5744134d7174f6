package tree

import (
	"whittler/api"
	"whittler/lex"
)

// MayExpr reports whether x is a well-formed expression.
func MayExpr(x api.Expr) bool { return mayExprWithin(x, api.MaxDeep) }

// mayExprWithin asks the depth ahead of all else, so that it ends even if a slice contains itself.
func mayExprWithin(x api.Expr, depth int) bool {
	if depth == 0 {
		return false
	}
	switch {
	case x.Op == api.XNumber:
		return x.N >= 0 && x.Name == "" && len(x.Kids) == 0
	case x.Op == api.XName:
		return x.N == 0 && lex.Name(x.Name) && len(x.Kids) == 0
	case x.N != 0 || x.Name != "" || len(x.Kids) != operands(x.Op):
		return false
	}
	for _, kid := range x.Kids {
		if !mayExprWithin(kid, depth-1) {
			return false
		}
	}
	return true
}

// operands answers how many kids an operator has; -1 if op is none.
func operands(op int) int {
	switch {
	case op == api.XNeg || op == api.XNot:
		return 1
	case op >= api.XMul && op <= api.XOr:
		return 2
	}
	return -1
}

// May reports whether p is a well-formed program.
func May(p api.Program) bool {
	if len(p.Globals) > api.MaxGlobals || len(p.Procs) > api.MaxProcs || !mayNames(p.Globals) {
		return false
	}
	count := 0
	for _, proc := range p.Procs {
		if !mayHead(proc) || !mayBlock(proc.Body, 1, &count) {
			return false
		}
	}
	return true
}

// mayHead reports whether all of a procedure but its body is well-formed.
func mayHead(proc api.Proc) bool {
	if len(proc.Params) > api.MaxParams || len(proc.Vars) > api.MaxVars {
		return false
	}
	for _, param := range proc.Params {
		if !lex.Name(param.Name) {
			return false
		}
	}
	return lex.Name(proc.Name) && mayNames(proc.Vars) && mayNames(proc.End)
}

// mayBlock reports whether the statements of a block are well-formed, with all that they contain;
// count is how many statements stand ahead of the block, and then how many up to its end. Depth and
// count are asked ahead of what a statement contains, so that it ends even if a slice contains itself.
func mayBlock(block []api.Stmt, depth int, count *int) bool {
	for _, s := range block {
		*count++
		if depth > api.MaxNest || *count > api.MaxStmts || s.Id != *count || !mayStmt(s) {
			return false
		}
		if !mayBlock(s.Then, depth+1, count) || !mayBlock(s.Else, depth+1, count) {
			return false
		}
	}
	return true
}

// shape tells which fields a statement must have, and which blocks and arguments it may have.
type shape struct {
	name, proc, x, has, args, then, orElse bool
}

// shapeOf answers the shape of a statement of s's kind; false if there is no such kind.
func shapeOf(s api.Stmt) (shape, bool) {
	switch s.Kind {
	case api.SAssign:
		return shape{name: true, x: true}, true
	case api.SRead, api.SGoto:
		return shape{name: true}, true
	case api.SPrint:
		return shape{x: true}, true
	case api.SCall:
		return shape{name: s.Name != "", proc: true, args: true}, true
	case api.SIf:
		return shape{x: true, then: true, orElse: true}, true
	case api.SWhile:
		return shape{x: true, then: true}, true
	case api.SBreak, api.SContinue:
		return shape{}, true
	case api.SReturn:
		return shape{x: s.Has, has: s.Has}, true
	}
	return shape{}, false
}

// mayStmt reports whether the fields of s are well-formed, but for its id and for the statements in it.
func mayStmt(s api.Stmt) bool {
	want, ok := shapeOf(s)
	return ok && s.Has == want.has &&
		(want.then || len(s.Then) == 0) && (want.orElse || len(s.Else) == 0) &&
		mayName(s.Name, want.name) && mayName(s.Proc, want.proc) && mayNames(s.Labels) &&
		mayX(s.X, want.x) && (want.args || len(s.Args) == 0) && mayArgs(s.Args)
}

func mayArgs(args []api.Arg) bool {
	for _, arg := range args {
		if !mayName(arg.Name, arg.Ref) || !mayX(arg.X, !arg.Ref) {
			return false
		}
	}
	return true
}

// mayName reports whether s is an identifier if there is to be one, and empty otherwise.
func mayName(s string, there bool) bool {
	if there {
		return lex.Name(s)
	}
	return s == ""
}

// mayX reports whether x is well-formed if there is to be an expression, and zero otherwise.
func mayX(x api.Expr, there bool) bool {
	if there {
		return MayExpr(x)
	}
	return x.Op == 0 && x.N == 0 && x.Name == "" && len(x.Kids) == 0
}

func mayNames(names []string) bool {
	for _, s := range names {
		if !lex.Name(s) {
			return false
		}
	}
	return true
}
