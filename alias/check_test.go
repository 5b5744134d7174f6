package alias

import (
	"slices"
	"strings"
	"testing"

	"whittler/api"
	"whittler/arity"
	"whittler/tree"
)

func TestRightPrograms(t *testing.T) {
	holdCheck(t, ordinary(), api.Fault{})
	for _, text := range []string{
		"proc main() { }",
		"global g; proc main() { g = g; read g; print g; if (g) { break; } else { continue; } while (g) { goto l; } return g; return; l: }",
		"proc f() { f(); g(); } proc g() { f(); g(); } proc main() { f(); g(); }",
		"global g; proc main() { g = f(g, g, g + g); f(g, g, g); } proc f(a, b, c) { g = f(a, g, g); a = f(a, a, a); }",
		"global g; proc main() { f(ref g, g); g = 1; } proc f(ref a, b) { b = f(ref a, a); }",
		"global g, h; proc main() { g = f(ref h); h = f(ref g); } proc f(ref a) { var b; b = f(ref a); a = f(ref b); }",
		// One name may be several things.
		"global g; proc main() { var f; f(ref f); } proc f(ref f) { var g1; g1 = f(ref f); }",
		"global k; proc main() { f(ref k); k(); } proc f(ref a) { k: k(); goto k; } proc k() { }",
		// Labels and jumps are asked elsewhere.
		"proc main() { var x; f(ref x); goto f; break; continue; } proc f(ref a) { a: a: }",
		// Those who call name the global, but not who is called.
		"global g; proc main() { g = 1; f(ref g); } proc f(ref a) { k(ref a); } proc k(ref a) { a = a + 1; }",
	} {
		p := read(t, text)
		holdCheck(t, p, api.Fault{})
		holdAll(t, p)
	}
}

func TestOneCall(t *testing.T) {
	for _, c := range []struct {
		text string
		at   int
	}{
		{"proc main() { var x; f(ref x, ref x); } proc f(ref a, ref b) { }", 1},
		{"proc main() { var x; print 1; l: m: x = f(ref x); print 2; l: } proc f(ref a) { }", 2},
		{"global g; proc main() { f(ref g); } proc f(ref a) { g = a; }", 1},
		{"global g; proc main() { f(ref g); } proc f(ref a) { k(); } proc k() { print g; }", 1},
		{"global g; proc main() { f(ref g); } proc f(ref a) { k(); } proc k() { m(); } proc m() { read g; }", 1},
		{"global g; proc f(ref a) { k(); } proc main() { f(ref g); } proc k() { m(); } proc m() { read g; }", 2},
		// A procedure that hands a global to itself names it.
		{"global g; proc main() { var x; f(ref x); } proc f(ref a) { f(ref g); }", 2},
		{"global g; proc main() { var x; f(ref x); } proc f(ref a) { k(ref g); } proc k(ref b) { f(ref b); }", 2},
		{"proc main() { } proc f(ref a, ref b) { f(ref a, ref b); f(ref b, ref b); }", 2},
		{"proc main() { } proc f(ref a, b) { a = f(ref b, a); b = f(ref a, b); a = f(ref a, b); }", 3},
		// A procedure that no call reaches is asked too, and what comes behind a jump.
		{"proc main() { var x; return; x = f(ref x); } proc f(ref a) { }", 2},
		{"global g; proc main() { } proc f(ref a) { while (0) { f(ref g); } }", 2},
		{"global g; proc main() { } proc k() { f(ref g); } proc f(ref a) { return; print g; }", 1},
	} {
		p := read(t, c.text)
		holdCheck(t, p, wrong(c.at))
		holdAll(t, p)
	}
}

// The first such call is told, one ahead of those in a Then, and a Then ahead of an Else.
func TestFirstOfSeveral(t *testing.T) {
	for _, c := range []struct {
		text string
		at   int
	}{
		{"bad; bad;", 1},
		{"ok; bad;", 2},
		{"if (1) { bad; } else { bad; }", 2},
		{"if (1) { ok; } else { bad; }", 3},
		{"if (1) { bad; } else { ok; }", 2},
		{"if (1) { ok; } else { ok; } bad;", 4},
		{"if (1) { ok; bad; } else { bad; } bad;", 3},
		{"if (1) { } else { bad; } bad;", 2},
		{"if (1) { ok; ok; ok; } else { ok; bad; }", 6},
		{"while (1) { bad; } bad;", 2},
		{"while (1) { ok; } bad;", 3},
		{"while (1) { while (2) { ok; } bad; } bad;", 4},
		{"if (1) { if (2) { ok; } else { bad; } bad; } else { bad; } bad;", 4},
		{"if (1) { if (2) { ok; } else { ok; } bad; } else { bad; } bad;", 5},
		{"if (1) { if (2) { ok; } else { ok; } ok; } else { bad; } bad;", 6},
		{"ok; if (1) { } else { } bad; if (1) { bad; }", 3},
	} {
		for _, bad := range []string{"f(ref x, ref x)", "x = f(ref x, ref y)", "f(ref x, ref g)", "h = f(ref g, ref x)", "k(ref g)", "y = k(ref y)"} {
			text := strings.ReplaceAll(strings.ReplaceAll(c.text, "bad", bad), "ok", "x = f(ref y, ref h)")
			p := read(t, "global g, h; proc main() { var x, y; "+text+" } proc f(ref a, ref b) { k(ref a); } proc k(ref a) { g = a; k(ref g); }")
			holdCheck(t, p, wrong(c.at))
			holdAll(t, p)
			p = read(t, "global g, h; proc f(ref a, ref b) { k(ref a); print 1; k(ref b); } proc main() { var x, y; "+text+" } proc k(ref a) { g = a; k(ref g); }")
			holdCheck(t, p, wrong(c.at+3))
			holdAll(t, p)
		}
	}
}

// holes is a program with calls that fit in all sorts of places.
const holes = "global g, h; proc main() { var x, y; f(ref x, ref y); if (x) { y = f(ref h, ref x); k(ref y); while (x) { x = f(ref y, ref h); } } else { k(ref h); if (0) { } else { h = f(ref x, ref y); print x; } } k(ref x); } " +
	"proc f(ref a, ref b) { if (a + g) { while (a) { if (a) { } else { f(ref b, ref a); } } g = f(ref a, ref b); } } proc k(ref r) { d(); k(ref r); } proc d() { while (1) { } d(); g = d(); }"

// spoil makes the call with an id one by which a variable gets a second name, and reports whether there
// is such a call.
func spoil(block []api.Stmt, id, way int) bool {
	for i := range block {
		s := &block[i]
		if spoil(s.Then, id, way) || spoil(s.Else, id, way) {
			return true
		}
		if s.Id != id || len(s.Args) == 0 {
			continue
		}
		last := len(s.Args) - 1
		switch {
		case way == 0:
			s.Args[last].Name = "g"
		case way == 1 && last > 0:
			s.Args[0].Name = s.Args[last].Name
		case way == 2:
			s.Name = s.Args[0].Name
		default:
			s.Name = s.Args[last].Name
		}
		return true
	}
	return false
}

func TestTwoThatAreSpoilt(t *testing.T) {
	holdCheck(t, read(t, holes), api.Fault{})
	n, spoilt := tree.Count(read(t, holes)), 0
	for a := 1; a <= n; a++ {
		for b := 1; b <= n; b++ {
			for way := range 16 {
				p := read(t, holes)
				first := 0
				for _, proc := range p.Procs {
					if spoil(proc.Body, a, way%4) && (first == 0 || a < first) {
						first = a
					}
					if a != b && spoil(proc.Body, b, way/4) && (first == 0 || b < first) {
						first = b
					}
				}
				if first == 0 {
					holdCheck(t, p, api.Fault{})
					continue
				}
				spoilt++
				holdCheck(t, p, wrong(first))
			}
		}
	}
	if spoilt < 3000 {
		t.Errorf("only %d programs with calls that do not fit", spoilt)
	}
}

func TestEachStatementOfMany(t *testing.T) {
	p := api.Program{Globals: []string{"g", "u"}}
	for _, s := range strings.Fields("a b c main d e f h") {
		row := func(proc string) api.Stmt { return call(proc, ref("x"), ref("y")) }
		body := slices.Repeat([]api.Stmt{{Kind: api.SWhile, X: num(1), Then: []api.Stmt{row("a"), {Kind: api.SIf, X: name("g"), Then: []api.Stmt{row("b")}, Else: []api.Stmt{row("c")}}}}}, 5)
		proc := api.Proc{Name: s, Vars: []string{"x", "y"}, Params: []api.Param{{Name: "p", Ref: true}, {Name: "q", Ref: true}}, Body: body}
		if s == "main" {
			proc.Params = nil
		}
		p.Procs = append(p.Procs, proc)
	}
	p = tree.Number(p)
	holdCheck(t, p, api.Fault{})
	calls := 0
	for id := 1; id <= 200; id++ {
		for way := range 4 {
			q := tree.Number(p)
			for _, proc := range q.Procs {
				for later := id; later <= 200; later += 7 {
					spoil(proc.Body, later, way)
				}
			}
			if _, s, _ := tree.Find(p, id); s.Kind == api.SCall {
				calls++
				holdCheck(t, q, wrong(id))
			}
		}
	}
	if n := tree.Count(p); n != 200 || calls != 480 {
		t.Errorf("%d statements, %d calls", n, calls)
	}
}

func TestDeepestStatements(t *testing.T) {
	for _, bad := range []bool{false, true} {
		for way := range 2 {
			s, want := call("f", ref("x"), ref("y")), wrong(13)
			if bad {
				s, want = call("f", ref("x"), ref("x")), wrong(12)
			}
			for range 11 {
				outer := api.Stmt{Kind: api.SIf, X: num(1)}
				if way == 0 {
					outer.Then = []api.Stmt{s}
				} else {
					outer.Else = []api.Stmt{s}
				}
				s = outer
			}
			f := api.Proc{Name: "f", Params: []api.Param{{Name: "a", Ref: true}, {Name: "b", Ref: true}}, Body: []api.Stmt{call("f", ref("b"), ref("b"))}}
			holdCheck(t, tree.Number(api.Program{Procs: []api.Proc{{Name: "main", Vars: []string{"x", "y"}, Body: []api.Stmt{s}}, f}}), want)
		}
	}
}

// Sixteen procedures, of which each calls the next one and the last one names a global.
func TestLongChain(t *testing.T) {
	for last := range 16 {
		p := api.Program{Globals: []string{"g", "h"}}
		for i := range 16 {
			proc := api.Proc{Name: "f" + string(rune('a'+i)), Params: []api.Param{{Name: "r", Ref: true}}}
			if i == 0 {
				proc.Name, proc.Params = "main", nil
				proc.Vars = []string{"r"}
			}
			if i < 15 {
				proc.Body = []api.Stmt{call("f"+string(rune('b'+i)), ref("r"))}
			}
			p.Procs = append(p.Procs, proc)
		}
		p.Procs[last].Body = append(p.Procs[last].Body, api.Stmt{Kind: api.SRead, Name: "g"})
		for caller := range 16 {
			for _, global := range []string{"g", "h"} {
				q := tree.Number(p)
				if caller == 15 {
					break
				}
				q.Procs[caller].Body[0].Args[0].Name = global
				named := slices.ContainsFunc(q.Procs[caller+1:], func(f api.Proc) bool { return len(f.Body) > 0 && f.Body[len(f.Body)-1].Name == global })
				want := api.Fault{}
				if named {
					want = wrong(q.Procs[caller].Body[0].Id)
				}
				holdCheck(t, q, want)
			}
		}
	}
}

func TestGreatArguments(t *testing.T) {
	all := name("x")
	for range 17 {
		all = two(api.XAdd, all, all)
	}
	p := api.Program{Procs: []api.Proc{{Name: "main", Vars: []string{"x", "y"}, Body: []api.Stmt{{Id: 1, Kind: api.SCall, Proc: "f", Args: []api.Arg{val(all), ref("x"), ref("y")}}}},
		{Name: "f", Params: []api.Param{{Name: "a"}, {Name: "b", Ref: true}, {Name: "c", Ref: true}}}}}
	if Check(p) != (api.Fault{}) || !Fits(p, p.Procs[0].Body[0]) {
		t.Errorf("P10.1: great expressions do not fit")
	}
	p.Procs[0].Body[0].Args[2].Name = "x"
	if Check(p) != wrong(1) || Fits(p, p.Procs[0].Body[0]) {
		t.Errorf("P10.1: great expressions fit")
	}
	p.Procs[0].Body[0].Args = slices.Repeat([]api.Arg{val(name("x")), ref("x")}, 100000)
	if arity.Check(p) == (api.Fault{}) || Check(p) != (api.Fault{Code: api.ErrForm}) || Fits(p, p.Procs[0].Body[0]) {
		t.Errorf("P10.1: too many arguments fit")
	}
}
