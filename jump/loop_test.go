package jump

import (
	"math"
	"strings"
	"testing"

	"whittler/api"
	"whittler/tree"
)

func TestLoopOfAnOrdinaryProgram(t *testing.T) {
	p := ordinary()
	for id := 1; id <= 14; id++ {
		want := 0
		if id == 4 || id == 5 {
			want = 3
		}
		holdLoop(t, p, id, want)
	}
}

func TestLoop(t *testing.T) {
	for _, c := range []struct {
		text  string
		loops []int // those of the statements 1, 2 ..
	}{
		{"", nil},
		{"print 1;", []int{0}},
		{"if (1) { print 1; } else { print 2; } print 3;", []int{0, 0, 0, 0}},
		// A loop is in none because of itself.
		{"while (1) { }", []int{0}},
		{"while (1) { } while (2) { } print 1;", []int{0, 0, 0}},
		{"while (1) { print 1; }", []int{0, 1}},
		{"print 1; while (1) { print 2; print 3; } print 4;", []int{0, 0, 2, 2, 0}},
		// Of several the innermost.
		{"while (1) { while (2) { print 1; } print 2; } print 3;", []int{0, 1, 2, 1, 0}},
		{"while (1) { while (2) { while (3) { while (4) { } print 1; } } while (5) { print 2; } } print 3;", []int{0, 1, 2, 3, 3, 1, 6, 0}},
		{"while (1) { while (2) { } while (3) { print 1; } while (4) { } print 2; }", []int{0, 1, 1, 3, 1, 1}},
		// A statement in an if in a loop is in the loop; in a loop in an if it is too.
		{"while (1) { if (2) { print 1; } else { print 2; } print 3; }", []int{0, 1, 1, 1, 1}},
		{"while (1) { if (2) { if (3) { } else { print 1; } } } print 2;", []int{0, 1, 1, 1, 0}},
		{"if (1) { while (2) { print 1; } print 2; } else { while (3) { print 3; } print 4; } print 5;", []int{0, 0, 2, 0, 0, 5, 0, 0}},
		{"while (1) { if (2) { while (3) { print 1; } print 2; } else { print 3; while (4) { print 4; } print 5; } print 6; } print 7;", []int{0, 1, 1, 3, 1, 1, 1, 7, 1, 1, 0}},
		// Statements of all kinds, with labels and without.
		{"while (1) { x = 1; l: read x; print x; x = f(); f(); if (1) { } while (1) { } break; m: continue; return 1; return; goto l; }", []int{0, 1, 1, 1, 1, 1, 1, 1, 1, 1, 1, 1, 1}},
		{"x = 1; read x; print x; x = f(); f(); if (1) { } while (1) { } break; continue; return 1; return; goto x;", []int{0, 0, 0, 0, 0, 0, 0, 0, 0, 0, 0, 0}},
		// One that jumps do not leave, or never come to, counts all the same.
		{"l: print 1; if (1) { goto l; } goto m; print 2; m: while (0) { print 3; goto n; } n:", []int{0, 0, 0, 0, 0, 0, 6, 6}},
	} {
		p := read(t, "proc main() { var x; "+c.text+" } proc f() { print 1; while (1) { break; } }")
		n := len(c.loops)
		if tree.Count(p) != n+3 {
			t.Errorf("%q has %d statements", c.text, tree.Count(p)-3)
		}
		for i, want := range c.loops {
			holdLoop(t, p, i+1, want)
		}
		holdLoop(t, p, n+1, 0)
		holdLoop(t, p, n+2, 0)
		holdLoop(t, p, n+3, n+2)
		p = read(t, "proc f() { while (1) { print 1; if (1) { } else { print 2; } } } proc main() { var x; "+c.text+" }")
		for i, want := range c.loops {
			if want != 0 {
				want += 4
			}
			holdLoop(t, p, i+5, want)
		}
		for id, want := range []int{0, 0, 1, 1, 1} {
			holdLoop(t, p, id, want)
		}
	}
}

func TestIdsThatNoStatementHas(t *testing.T) {
	for text, n := range map[string]int{
		"proc main() { while (1) { while (2) { print 1; } } }":                           3,
		"proc f() { while (1) { } } proc main() { while (1) { print 1; } } proc g() { }": 3,
		"proc main() { }": 0,
	} {
		p := read(t, text)
		for _, id := range []int{math.MinInt64, -200, -3, -2, api.Exit, api.Entry, n + 1, n + 2, 199, 200, 201, 1 << 32, 1<<32 + 2, 1<<32 + 3, math.MaxInt64} {
			holdLoop(t, p, id, 0)
		}
	}
}

func TestLoopsOfTheDeepestStatements(t *testing.T) {
	for mask := range 1 << 11 {
		s := api.Stmt{Kind: api.SBreak}
		for i := range 11 {
			switch {
			case mask>>i&1 == 1:
				s = api.Stmt{Kind: api.SWhile, X: num(1), Then: []api.Stmt{s}}
			case i%2 == 0:
				s = api.Stmt{Kind: api.SIf, X: num(1), Then: []api.Stmt{s}}
			default:
				s = api.Stmt{Kind: api.SIf, X: num(1), Else: []api.Stmt{s}}
			}
		}
		p := tree.Number(api.Program{Procs: []api.Proc{{Name: "main", Body: []api.Stmt{s}}}})
		around := 0
		for id := 1; id <= 12; id++ {
			holdLoop(t, p, id, around)
			if mask<<id>>11&1 == 1 {
				around = id
			}
		}
		want := api.Fault{}
		if mask == 0 {
			want = fault(12)
		}
		holdCheck(t, p, want)
	}
}

func TestLoopsOfManyStatements(t *testing.T) {
	p := many()
	for id := range 201 {
		want := 0
		if id > 0 && (id-1)%5 > 0 {
			want = id - (id-1)%5
		}
		holdLoop(t, p, id, want)
	}
}

// Whether there is a loop does not hang on what it is asked of, nor on names, values or other faults.
func TestLoopsOfProgramsWithOtherFaults(t *testing.T) {
	for _, text := range []string{
		"proc main() { while (0) { print 1; } goto none; }",
		"proc main() { while (0) { break; } break; }",
		"proc main() { a: while (0) { a: continue; } a: }",
		"proc main() { while (0) { f(1, 2, 3); } } proc f(ref a) { }",
	} {
		p := read(t, text)
		holdLoop(t, p, 1, 0)
		holdLoop(t, p, 2, 1)
		holdLoop(t, p, 3, 0)
		if strings.Contains(text, "a:") {
			holdAt(t, p, "main", "a", 1)
		}
	}
}
