package touch

import (
	"slices"
	"testing"

	"whittler/api"
	"whittler/lex"
	"whittler/print"
)

// table is what the text of a program tells, for all of its procedures.
type table struct {
	procs []string
	calls map[string]map[string]bool // of each procedure
	names map[string]map[string]bool // the variables that its statements name
	all   map[string]map[string]bool
}

// tableOf reads the text of a program token by token, whatever its statements are: in the body of a
// procedure, a name ahead of a parenthesis is called, one ahead of a colon is a label, one behind goto
// is jumped to, and every other one is a variable.
func tableOf(t *testing.T, p api.Program) table {
	t.Helper()
	tokens, fault := lex.All(print.Text(p))
	if fault != (api.Fault{}) {
		t.Fatalf("the text of %s has the fault %v", short(p), fault)
	}
	out := table{calls: map[string]map[string]bool{}, names: map[string]map[string]bool{}, all: map[string]map[string]bool{}}
	proc := ""
	for at := 0; tokens[at].Kind != api.TEnd; at++ {
		token, next := tokens[at], tokens[at+1].Text
		switch {
		case token.Text == "global" || token.Text == "var":
			for tokens[at].Text != ";" {
				at++
			}
		case token.Text == "proc":
			proc = next
			out.procs = append(out.procs, proc)
			out.calls[proc], out.names[proc] = map[string]bool{}, map[string]bool{}
			for tokens[at].Text != "{" {
				at++
			}
		case token.Text == "goto":
			at++
		case token.Kind != api.TName || next == ":":
		case next == "(":
			out.calls[proc][token.Text] = true
		default:
			out.names[proc][token.Text] = true
		}
	}
	out.join()
	return out
}

// join finds who reaches whom: by no procedure in between, then by the first one too, and so on.
func (out table) join() {
	for _, a := range out.procs {
		out.all[a] = map[string]bool{a: true}
		for b := range out.calls[a] {
			out.all[a][b] = true
		}
	}
	for _, through := range out.procs {
		for _, a := range out.procs {
			for _, b := range out.procs {
				if out.all[a][through] && out.all[through][b] {
					out.all[a][b] = true
				}
			}
		}
	}
}

// globals answers those of a list that a procedure touches.
func (out table) globals(proc string, list []string) []string {
	var touched []string
	for _, name := range list {
		for b := range out.all[proc] {
			if out.names[b][name] && !slices.Contains(touched, name) {
				touched = append(touched, name)
			}
		}
	}
	slices.Sort(touched)
	return touched
}

func sorted(names map[string]bool) []string {
	var list []string
	for name := range names {
		list = append(list, name)
	}
	slices.Sort(list)
	return list
}

// holdAll holds all that is answered for a program with right names against what its text tells.
func holdAll(t *testing.T, p api.Program) {
	t.Helper()
	out := tableOf(t, p)
	for _, proc := range out.procs {
		holdCalls(t, p, proc, sorted(out.calls[proc])...)
		holdReached(t, p, proc, sorted(out.all[proc])...)
		holdGlobals(t, p, proc, out.globals(proc, p.Globals)...)
	}
}
