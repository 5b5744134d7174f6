package scope

import (
	"slices"

	"whittler/api"
	"whittler/tree"
)

// mainName is the procedure with which a program begins, and which none may call.
const mainName = "main"

// Check answers the first fault of a program's names.
func Check(p api.Program) api.Fault {
	if !tree.May(p) {
		return api.Fault{Code: api.ErrForm}
	}
	procs := make([]string, len(p.Procs))
	for i, proc := range p.Procs {
		procs[i] = proc.Name
	}
	at := slices.Index(procs, mainName)
	if at < 0 || len(p.Procs[at].Params) > 0 || !distinct(p.Globals) || !distinct(procs) {
		return api.Fault{Code: api.ErrName}
	}
	for _, proc := range p.Procs {
		// The globals are distinct here, so that a name that is twice among all of these is the procedure's.
		if !distinct(namesIn(p.Globals, proc)) {
			return api.Fault{Code: api.ErrName}
		}
		c := checker{globals: p.Globals, procs: procs, proc: proc}
		if id := c.wrong(proc.Body); id != 0 {
			return api.Fault{Code: api.ErrName, At: id}
		}
	}
	return api.Fault{}
}

func distinct(names []string) bool {
	for i, name := range names {
		if slices.Contains(names[:i], name) {
			return false
		}
	}
	return true
}

// checker holds what the statements of a procedure can refer to.
type checker struct {
	globals []string
	procs   []string
	proc    api.Proc
}

// wrong answers the id of the first statement, of a block and all that is in it, that refers to
// something else; 0 if there is none.
func (c checker) wrong(block []api.Stmt) int {
	for _, s := range block {
		if !c.right(s) {
			return s.Id
		}
		if id := c.wrong(s.Then); id != 0 {
			return id
		}
		if id := c.wrong(s.Else); id != 0 {
			return id
		}
	}
	return 0
}

// right reports whether all that s itself refers to is there, leaving out the statements in it.
func (c checker) right(s api.Stmt) bool {
	for _, name := range variables(s) {
		if kindIn(c.globals, c.proc, name) == None {
			return false
		}
	}
	return s.Kind != api.SCall || s.Proc != mainName && slices.Contains(c.procs, s.Proc)
}

// variables answers the variables that s itself names; what it jumps to is none.
func variables(s api.Stmt) []string {
	names := tree.Names(s.X)
	if s.Name != "" && s.Kind != api.SGoto {
		names = append(names, s.Name)
	}
	for _, arg := range s.Args {
		if arg.Ref {
			names = append(names, arg.Name)
		} else {
			names = append(names, tree.Names(arg.X)...)
		}
	}
	return names
}
