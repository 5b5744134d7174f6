package parse

import "whittler/api"

// items reads the statements of a body or a block, and the labels that stand behind the last one.
func (r *reader) items(depth int) (list []api.Stmt, end []string) {
	for {
		labels := r.labels()
		if !r.seesStmt() {
			return list, labels
		}
		list = append(list, r.stmt(labels, depth))
	}
}

func (r *reader) labels() []string {
	var labels []string
	// A name without a colon is left where it is: it begins a statement, if anything.
	for r.seesNameAnd(":") {
		labels = append(labels, r.name())
		r.want(":")
	}
	return labels
}

func (r *reader) seesStmt() bool {
	switch r.token().Text {
	case "if", "while", "break", "continue", "return", "goto", "read", "print":
		return true
	}
	return r.seesName()
}

func (r *reader) block(depth int) []api.Stmt {
	r.want("{")
	list, end := r.items(depth)
	// Only at a procedure's end may labels stand without a statement.
	if len(end) > 0 {
		r.refuse()
	}
	r.want("}")
	return list
}

func (r *reader) stmt(labels []string, depth int) api.Stmt {
	r.hold(r.stmts, api.MaxStmts)
	r.hold(depth-1, api.MaxNest)
	r.stmts++
	s := api.Stmt{Id: r.stmts, Labels: labels}
	switch {
	case r.skip("if"):
		r.branch(&s, depth)
	case r.skip("while"):
		r.loop(&s, depth)
	default:
		r.simple(&s)
		r.want(";")
	}
	return s
}

func (r *reader) branch(s *api.Stmt, depth int) {
	s.Kind = api.SIf
	s.X = r.condition()
	s.Then = r.block(depth + 1)
	if r.skip("else") {
		s.Else = r.block(depth + 1)
	}
}

func (r *reader) loop(s *api.Stmt, depth int) {
	s.Kind = api.SWhile
	s.X = r.condition()
	s.Then = r.block(depth + 1)
}

func (r *reader) condition() api.Expr {
	r.want("(")
	x := r.whole()
	r.want(")")
	return x
}

// simple reads a statement without blocks up to its semicolon.
func (r *reader) simple(s *api.Stmt) {
	switch {
	case r.skip("break"):
		s.Kind = api.SBreak
	case r.skip("continue"):
		s.Kind = api.SContinue
	case r.skip("return"):
		s.Kind = api.SReturn
		if !r.sees(";") {
			s.Has = true
			s.X = r.whole()
		}
	case r.skip("goto"):
		s.Kind = api.SGoto
		s.Name = r.name()
	case r.skip("read"):
		s.Kind = api.SRead
		s.Name = r.name()
	case r.skip("print"):
		s.Kind = api.SPrint
		s.X = r.whole()
	case r.seesNameAnd("("):
		r.call(s)
	default:
		r.assign(s)
	}
}

// assign reads a name and what it gets: an expression, or what a call gives.
func (r *reader) assign(s *api.Stmt) {
	s.Name = r.name()
	r.want("=")
	if r.seesNameAnd("(") {
		r.call(s)
		return
	}
	s.Kind = api.SAssign
	s.X = r.whole()
}

func (r *reader) call(s *api.Stmt) {
	s.Kind = api.SCall
	s.Proc = r.name()
	s.Args = r.args()
}

func (r *reader) args() []api.Arg {
	var args []api.Arg
	r.want("(")
	if r.skip(")") {
		return nil
	}
	for more := true; more; more = r.skip(",") {
		args = append(args, r.arg())
	}
	r.want(")")
	return args
}

func (r *reader) arg() api.Arg {
	if r.skip("ref") {
		return api.Arg{Ref: true, Name: r.name()}
	}
	return api.Arg{X: r.whole()}
}
