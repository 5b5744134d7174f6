package tree

import (
	"strings"

	"whittler/api"
)

func cloneProgram(p api.Program) api.Program {
	procs := fresh(p.Procs)
	for i := range procs {
		proc := &procs[i]
		proc.Name = strings.Clone(proc.Name)
		proc.Params = cloneParams(proc.Params)
		proc.Vars = cloneNames(proc.Vars)
		proc.Body = cloneStmts(proc.Body)
		proc.End = cloneNames(proc.End)
	}
	return api.Program{Globals: cloneNames(p.Globals), Procs: procs}
}

func cloneParams(params []api.Param) []api.Param {
	out := fresh(params)
	for i := range out {
		out[i].Name = strings.Clone(out[i].Name)
	}
	return out
}

func cloneStmt(s api.Stmt) api.Stmt { return cloneStmts([]api.Stmt{s})[0] }

// cloneStmts goes through the copy itself: a node that is met still has the original's lists, and
// gets its own ahead of what is in them.
func cloneStmts(block []api.Stmt) []api.Stmt {
	out := fresh(block)
	nodes := stmts(out)
	for s := nodes.next(); s != nil; s = nodes.next() {
		s.Labels = cloneNames(s.Labels)
		s.Name = strings.Clone(s.Name)
		s.Proc = strings.Clone(s.Proc)
		s.X = cloneExpr(s.X)
		s.Args = cloneArgs(s.Args)
		s.Then = fresh(s.Then)
		s.Else = fresh(s.Else)
	}
	return out
}

func cloneArgs(args []api.Arg) []api.Arg {
	out := fresh(args)
	for i := range out {
		out[i].Name = strings.Clone(out[i].Name)
		out[i].X = cloneExpr(out[i].X)
	}
	return out
}

// cloneExpr goes through the copy, as cloneStmts does.
func cloneExpr(x api.Expr) api.Expr {
	out := api.Expr{Op: x.Op, N: x.N, Name: strings.Clone(x.Name), Kids: fresh(x.Kids)}
	nodes := exprs(out.Kids)
	for kid := nodes.next(); kid != nil; kid = nodes.next() {
		kid.Name = strings.Clone(kid.Name)
		kid.Kids = fresh(kid.Kids)
	}
	return out
}

func cloneNames(names []string) []string {
	out := fresh(names)
	for i, s := range out {
		out[i] = strings.Clone(s)
	}
	return out
}

// fresh copies a list into memory that has no room beyond its end; a nil one stays nil.
func fresh[T any](list []T) []T {
	if list == nil {
		return nil
	}
	out := make([]T, len(list))
	copy(out, list)
	return out
}
