package check

import (
	"slices"
	"testing"

	"whittler/alias"
	"whittler/api"
	"whittler/arity"
	"whittler/jump"
	"whittler/scope"
	"whittler/tree"
)

func TestValidPrograms(t *testing.T) {
	holdAll(t, ordinary(), api.Fault{})
	for _, text := range []string{
		"proc main() { }",
		"proc main() { l: }",
		"global g; proc main() { read g; l: if (g) { while (g) { break; continue; } } else { goto l; goto e; } g = g; print g; return g; return; e: }",
		"global g; proc main() { var x; f(ref x); x = f(ref g); } proc f(ref a) { a = a; }",
		"proc f() { f(); } proc main() { f(); }",
		"global g, h; proc main() { var x; f(ref g, h, ref x); } proc f(ref a, b, ref c) { var d; d = f(ref a, b, ref c); print h; }",
		// One name may be several things.
		"global main; proc main() { main: main = main; goto main; }",
		"global f; proc main() { f: f(f, ref f); g: } proc f(f1, ref g) { var h; f: h = f(f1, ref g); g: goto f; goto g; }",
		// Each procedure has labels of its own.
		"proc main() { l: print 1; l2: } proc f() { l: print 1; l2: goto l; }",
		// A division by 0, a loop without an end and a call without one are no faults.
		"proc main() { print 1 / 0; while (1) { } main2: goto main2; } proc f() { f(); }",
	} {
		holdValid(t, text)
	}
}

// Of each of these programs one check alone tells a fault; those that stand on it tell no more than that.
func TestOneFault(t *testing.T) {
	for _, c := range []struct {
		text string
		code api.Errno
		at   int
	}{
		{"", api.ErrName, 0},
		{"global g;", api.ErrName, 0},
		{"proc f() { }", api.ErrName, 0},
		{"proc main(a) { }", api.ErrName, 0},
		{"proc main() { } proc main() { }", api.ErrName, 0},
		{"global g, g; proc main() { }", api.ErrName, 0},
		{"global g; proc main() { } proc f(g) { }", api.ErrName, 0},
		{"global g; proc main() { } proc f(ref a) { var a; }", api.ErrName, 0},
		{"proc main() { var x; x = 1; x = y; }", api.ErrName, 2},
		{"proc main() { print 1; f(); }", api.ErrName, 2},
		{"proc main() { } proc f() { while (1) { main(); } }", api.ErrName, 2},
		{"proc main() { var x; f(ref x); f(x); } proc f(ref a) { }", api.ErrArity, 2},
		{"proc main() { f(1); } proc f() { }", api.ErrArity, 1},
		{"proc main() { f(); } proc f(a) { }", api.ErrArity, 1},
		{"global g; proc main() { f(ref g); } proc f(a) { if (a) { f(a, a); } }", api.ErrArity, 1},
		{"proc main() { } proc f(a) { if (a) { f(a, a); } }", api.ErrArity, 2},
		{"proc main() { break; }", api.ErrLabel, 1},
		{"proc main() { print 1; if (1) { continue; } }", api.ErrLabel, 3},
		{"proc main() { while (1) { } goto l; }", api.ErrLabel, 2},
		{"proc main() { l: } proc f() { goto l; }", api.ErrLabel, 1},
		{"proc main() { a: print 1; if (1) { a: print 2; } }", api.ErrLabel, 3},
		{"proc main() { a: a: print 1; }", api.ErrLabel, 1},
		{"proc main() { print 1; a: a: }", api.ErrLabel, 0},
		{"proc main() { a: print 1; a: }", api.ErrLabel, 0},
		{"proc main() { var x; f(ref x, ref x); } proc f(ref a, ref b) { }", api.ErrAlias, 1},
		{"proc main() { var x; print x; x = f(ref x); } proc f(ref a) { }", api.ErrAlias, 2},
		{"global g; proc main() { f(ref g); } proc f(ref a) { g = a; }", api.ErrAlias, 1},
		{"global g; proc main() { } proc f(ref a) { while (a) { f(ref g); } }", api.ErrAlias, 2},
	} {
		holdFault(t, c.text, fault(c.code, c.at))
		p := read(t, c.text)
		for i, got := range []api.Fault{scope.Check(p), arity.Check(p), jump.Check(p), alias.Check(p)} {
			own := api.ErrName + api.Errno(i)
			if own == c.code && got != fault(c.code, c.at) || own != c.code && got.Code != api.OK && got.Code != api.ErrForm {
				t.Errorf("P11.1: the check %d tells %v of %q", i, got, c.text)
			}
		}
	}
}

// Of each of these programs two checks would tell a fault; the one that is told is marked. That of the
// other is the only one once the first is mended.
func TestTwoFaults(t *testing.T) {
	for _, c := range []struct {
		text, mended string
		code         api.Errno
		at           int
		later        api.Errno
		laterAt      int
	}{
		{"proc main() { f(1); print x; } proc f() { }", "proc main() { f(1); print 2; } proc f() { }", api.ErrName, 2, api.ErrArity, 1},
		{"proc main() { print x; f(1); } proc f() { }", "proc main() { print 2; f(1); } proc f() { }", api.ErrName, 1, api.ErrArity, 2},
		{"proc main() { f(1, x); } proc f() { }", "proc main() { f(1, 2); } proc f() { }", api.ErrName, 1, api.ErrArity, 1},
		{"proc main() { break; print x; }", "proc main() { break; print 2; }", api.ErrName, 2, api.ErrLabel, 1},
		{"proc main() { print x; break; }", "proc main() { print 2; break; }", api.ErrName, 1, api.ErrLabel, 2},
		{"proc main() { a: a: } proc f(a, a) { }", "proc main() { a: a: } proc f(a, b) { }", api.ErrName, 0, api.ErrLabel, 0},
		{"proc main() { var x; x = f(ref x); y = 1; } proc f(ref a) { }", "proc main() { var x; x = f(ref x); x = 1; } proc f(ref a) { }", api.ErrName, 2, api.ErrAlias, 1},
		{"proc main() { f(ref x, ref x); } proc f(ref a, ref b) { }", "proc main() { var x; f(ref x, ref x); } proc f(ref a, ref b) { }", api.ErrName, 1, api.ErrAlias, 1},
		{"proc main() { break; f(1); } proc f() { }", "proc main() { break; f(); } proc f() { }", api.ErrArity, 2, api.ErrLabel, 1},
		{"proc main() { f(1); break; } proc f() { }", "proc main() { f(); break; } proc f() { }", api.ErrArity, 1, api.ErrLabel, 2},
		{"proc main() { a: a: f(1); } proc f() { }", "proc main() { a: a: f(); } proc f() { }", api.ErrArity, 1, api.ErrLabel, 1},
		{"proc main() { var x; x = f(ref x); f(1); } proc f(ref a) { }", "proc main() { var x; x = f(ref x); f(ref x); } proc f(ref a) { }", api.ErrArity, 2, api.ErrAlias, 1},
		{"proc main() { var x; f(1); x = f(ref x); } proc f(ref a) { }", "proc main() { var x; f(ref x); x = f(ref x); } proc f(ref a) { }", api.ErrArity, 1, api.ErrAlias, 2},
		{"proc main() { var x; x = f(ref x, ref x); } proc f(ref a) { }", "proc main() { var x; x = f(ref x); } proc f(ref a) { }", api.ErrArity, 1, api.ErrAlias, 1},
		{"proc main() { var x; x = f(ref x); break; } proc f(ref a) { }", "proc main() { var x; x = f(ref x); } proc f(ref a) { }", api.ErrLabel, 2, api.ErrAlias, 1},
		{"proc main() { var x; continue; x = f(ref x); } proc f(ref a) { }", "proc main() { var x; return; x = f(ref x); } proc f(ref a) { }", api.ErrLabel, 1, api.ErrAlias, 2},
		{"proc main() { var x; l: l: x = f(ref x); } proc f(ref a) { }", "proc main() { var x; l: x = f(ref x); } proc f(ref a) { }", api.ErrLabel, 1, api.ErrAlias, 1},
		{"proc main() { var x; x = f(ref x); l: l: } proc f(ref a) { }", "proc main() { var x; x = f(ref x); l: } proc f(ref a) { }", api.ErrLabel, 0, api.ErrAlias, 1},
		{"proc main() { var x; x = f(ref x); } proc f(ref a) { goto a; }", "proc main() { var x; x = f(ref x); } proc f(ref a) { return a; }", api.ErrLabel, 2, api.ErrAlias, 1},
	} {
		holdFault(t, c.text, fault(c.code, c.at))
		holdFault(t, c.mended, fault(c.later, c.laterAt))
	}
}

// orders answers all orders of the numbers below n.
func orders(n int) [][]int {
	if n == 0 {
		return [][]int{nil}
	}
	var out [][]int
	for _, order := range orders(n - 1) {
		for at := range n {
			out = append(out, slices.Insert(slices.Clone(order), at, n-1))
		}
	}
	return out
}

// spoiler is a text that spoils a program: of how many statements it is, and which of them has the fault.
type spoiler struct {
	text  string
	count int
	at    int
}

// Statements that spoil a program, for each check, stand in each order, all of them or some.
func TestFaultsInEachOrder(t *testing.T) {
	spoilers := [][]spoiler{
		{{"none();", 1, 0}, {"if (x) { print none; }", 2, 1}, {"main();", 1, 0}, {"l3: none = 1;", 1, 0}, {"f(none, ref x, ref y);", 1, 0}},
		{{"d(1);", 1, 0}, {"f();", 1, 0}, {"x = f(x, x, ref x);", 1, 0}, {"while (x) { f(x, ref x); }", 2, 1}, {"d(ref x);", 1, 0}},
		{{"break;", 1, 0}, {"if (x) { } else { continue; }", 2, 1}, {"goto none;", 1, 0}, {"l1: x = x;", 1, 0}, {"l2: l2: if (x) { }", 1, 0}},
		{{"f(x, ref x, ref x);", 1, 0}, {"x = f(1, ref y, ref x);", 1, 0}, {"f(1, ref g, ref x);", 1, 0}, {"g = f(g, ref y, ref g);", 1, 0}, {"while (x) { l4: f(x, ref y, ref y); }", 2, 1}},
	}
	for some := range 16 {
		for i, order := range orders(4) {
			body, count, want := "", 0, api.Fault{}
			for _, which := range order {
				body, count = body+"print x; ", count+1
				if some&(1<<which) == 0 {
					continue
				}
				s := spoilers[which][(i+which)%5]
				if code := api.ErrName + api.Errno(which); want.Code == api.OK || code < want.Code {
					want = fault(code, count+1+s.at)
				}
				body, count = body+s.text+" ", count+s.count
			}
			holdBehind(t, body, 1, want)
			holdBehind(t, body, 3, want)
		}
	}
}

// holdBehind holds the fault of statements that stand behind so many others, in main or in a procedure
// that is not called.
func holdBehind(t *testing.T, body string, ahead int, want api.Fault) {
	t.Helper()
	if want != (api.Fault{}) {
		want.At += ahead
	}
	text := "global g; proc main() { var x, y; l1: print 0; " + body + " } proc d() { } proc f(a, ref b, ref c) { g = a; }"
	if ahead == 3 {
		text = "global g; proc d() { print g; } proc main() { l1: return; } proc k(ref x, y) { l1: print 0; " + body + " } proc f(a, ref b, ref c) { g = a; }"
	}
	if want == (api.Fault{}) {
		holdValid(t, text)
	} else {
		holdFault(t, text, want)
	}
}

// A program that is not well-formed has that fault alone, whatever else is wrong.
func TestFormComesFirst(t *testing.T) {
	for _, text := range []string{"proc main() { print x; }", "proc main() { f(1); } proc f() { }", "proc main() { break; }", "proc main() { var x; x = f(ref x); } proc f(ref a) { }", "proc main() { print 1; }", "proc k() { print 1; }"} {
		p := read(t, text)
		if All(p).Code == api.ErrForm {
			t.Errorf("P11.1: All of %q = %v", text, All(p))
		}
		p.Procs[0].Body[0].Id = 2
		holdAll(t, p, fault(api.ErrForm, 0))
		p = tree.Number(p)
		p.Globals = []string{"A"}
		holdAll(t, p, fault(api.ErrForm, 0))
	}
}
