package alias

import (
	"testing"

	"whittler/api"
	"whittler/lex"
	"whittler/print"
	"whittler/tree"
)

// told is what the text of a program tells of a call.
type told struct {
	id     int
	gives  string // who receives what it gives
	proc   string
	byRef  []string
	inside string // the procedure in which it stands
}

// callsOf reads the text of a program token by token: a statement begins where one may, and one that has
// a name ahead of a parenthesis is a call. It answers all calls, and the names that the statements of
// each procedure have, by which it names its variables.
func callsOf(t *testing.T, p api.Program) ([]told, map[string]map[string]bool) {
	t.Helper()
	tokens, fault := lex.All(print.Text(p))
	if fault != (api.Fault{}) {
		t.Fatalf("the text of %s has the fault %v", short(p), fault)
	}
	var calls []told
	names := map[string]map[string]bool{}
	next := told{}
	skip := func(at int, text string) int {
		for tokens[at].Text != text {
			at++
		}
		return at + 1
	}
	for at := 0; tokens[at].Kind != api.TEnd; {
		switch word := tokens[at].Text; {
		case word == "global" || word == "var":
			at = skip(at, ";")
			continue
		case word == "proc":
			next.inside = tokens[at+1].Text
			names[next.inside] = map[string]bool{}
			at = skip(at, "{")
			continue
		case word == "}" || word == "else" || word == "{":
			at++
			continue
		case tokens[at+1].Text == ":":
			at += 2
			continue
		}
		next.id++
		end := ";"
		if tokens[at].Text == "if" || tokens[at].Text == "while" {
			end = "{"
		}
		to := skip(at, end)
		if tokens[at].Text != "goto" {
			one := next
			for i, token := range tokens[at:to] {
				switch {
				case token.Kind != api.TName:
				case tokens[at+i+1].Text == "(":
					one.proc = token.Text
				default:
					names[next.inside][token.Text] = true
					if at+i > 0 && tokens[at+i-1].Text == "ref" {
						one.byRef = append(one.byRef, token.Text)
					}
				}
			}
			if one.proc != "" {
				if tokens[at+1].Text == "=" {
					one.gives = tokens[at].Text
				}
				calls = append(calls, one)
			}
		}
		at = to
	}
	return calls, names
}

// touchedBy answers the globals that a procedure names, or any that it calls: those of one that is called
// are laid to those of the one that calls it until nothing changes.
func touchedBy(p api.Program, calls []told, names map[string]map[string]bool) map[string]map[string]bool {
	out := map[string]map[string]bool{}
	for proc := range names {
		out[proc] = map[string]bool{}
		for _, global := range p.Globals {
			if names[proc][global] {
				out[proc][global] = true
			}
		}
	}
	for changed := true; changed; {
		changed = false
		for _, c := range calls {
			for global := range out[c.proc] {
				if !out[c.inside][global] {
					out[c.inside][global], changed = true, true
				}
			}
		}
	}
	return out
}

// single counts how often each name is spoken of: by each that is handed in by reference, by who receives
// what is given, and by what is called. None that is handed in may be spoken of twice.
func single(c told, touched map[string]map[string]bool) bool {
	count := map[string]int{}
	for _, name := range c.byRef {
		count[name]++
	}
	count[c.gives]++
	for name := range touched[c.proc] {
		count[name]++
	}
	for _, name := range c.byRef {
		if count[name] != 1 {
			return false
		}
	}
	return true
}

// wantedFault gathers all calls of a program with fitting calls that give a variable a second name, and
// answers the first of them.
func wantedFault(t *testing.T, p api.Program) api.Fault {
	t.Helper()
	calls, names := callsOf(t, p)
	touched := touchedBy(p, calls, names)
	first := 0
	for _, c := range calls {
		if !single(c, touched) && (first == 0 || c.id < first) {
			first = c.id
		}
	}
	if first == 0 {
		return api.Fault{}
	}
	return wrong(first)
}

// wantedFit asks the text of a well-formed call alone for what it hands in, and that of the program for
// what it touches.
func wantedFit(t *testing.T, p api.Program, s api.Stmt) bool {
	t.Helper()
	if s.Kind != api.SCall {
		return false
	}
	calls, names := callsOf(t, p)
	s.Id, s.Labels = 1, nil
	alone, _ := callsOf(t, api.Program{Procs: []api.Proc{{Name: "z", Body: []api.Stmt{s}}}})
	return single(alone[0], touchedBy(p, calls, names))
}

// holdAll holds all that is answered for a program with fitting calls against what its text tells.
func holdAll(t *testing.T, p api.Program) {
	t.Helper()
	want := wantedFault(t, p)
	holdCheck(t, p, want)
	for id := 1; id <= tree.Count(p); id++ {
		_, s, _ := tree.Find(p, id)
		holdFits(t, p, s, wantedFit(t, p, s))
	}
}
