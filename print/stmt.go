package print

import "whittler/api"

func (w *writer) stmts(block []api.Stmt) {
	for _, s := range block {
		w.begin()
		w.labels(s.Labels)
		w.stmt(s)
	}
}

// stmt puts a statement behind its labels, up to the end of its last line.
func (w *writer) stmt(s api.Stmt) {
	switch s.Kind {
	case api.SAssign:
		w.put(s.Name, " = ")
		w.expr(s.X)
	case api.SRead:
		w.put("read ", s.Name)
	case api.SPrint:
		w.put("print ")
		w.expr(s.X)
	case api.SCall:
		w.call(s)
	case api.SIf:
		w.branch(s)
		return
	case api.SWhile:
		w.loop(s)
		return
	case api.SBreak:
		w.put("break")
	case api.SContinue:
		w.put("continue")
	case api.SReturn:
		w.giveBack(s)
	case api.SGoto:
		w.put("goto ", s.Name)
	}
	w.end(";")
}

func (w *writer) call(s api.Stmt) {
	if s.Name != "" {
		w.put(s.Name, " = ")
	}
	w.put(s.Proc, "(")
	list(w, s.Args, w.arg)
	w.put(")")
}

func (w *writer) arg(arg api.Arg) {
	if arg.Ref {
		w.reference(true, arg.Name)
		return
	}
	w.expr(arg.X)
}

func (w *writer) giveBack(s api.Stmt) {
	w.put("return")
	if s.Has {
		w.put(" ")
		w.expr(s.X)
	}
}

func (w *writer) branch(s api.Stmt) {
	w.put("if ")
	w.enclosed(s.X)
	w.block(s.Then)
	if len(s.Else) > 0 {
		w.put(" else")
		w.block(s.Else)
	}
	w.end("")
}

func (w *writer) loop(s api.Stmt) {
	w.put("while ")
	w.enclosed(s.X)
	w.block(s.Then)
	w.end("")
}

// block puts statements in braces, and leaves the line of the last brace open for an else.
func (w *writer) block(block []api.Stmt) {
	w.end(" {")
	w.depth++
	w.stmts(block)
	w.depth--
	w.begin()
	w.put("}")
}
