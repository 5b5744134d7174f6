package scope

import (
	"slices"
	"strings"
	"testing"

	"whittler/api"
	"whittler/tree"
)

func TestExampleOfTheChapter(t *testing.T) {
	holdCheck(t, read(t, "proc main() { var x; x = 1; x = y; }"), wrong(2))
}

func TestRightPrograms(t *testing.T) {
	holdCheck(t, ordinary(), api.Fault{})
	for _, text := range []string{
		"proc main() { }",
		"global g; proc main() { g = g; }",
		"proc f() { } proc main() { f(); }",
		"proc f() { f(); g(); } proc g() { f(); g(); } proc main() { f(); g(); }",
		"proc main() { var x; read x; while (x) { if (x) { break; } else { continue; } } print x; return; }",
		"proc main() { } proc f(a, ref b) { var c; c = a; b = c; return a + b + c; }",
		// One name may be another thing in each procedure.
		"proc main() { var a; a = f(a, ref a); } proc f(b, ref a) { var c; c = a; } proc g(a, ref c) { var b; a = b + c; }",
		// Procedures, variables and labels have their names each for themselves.
		"proc main() { var main, f; main = f; f = f(main); } proc f(f) { var main; main = f; f = f(main); }",
		"global f; proc main() { f = f(f); } proc f(main) { return main; }",
		"global l; proc main() { var m; l: m: goto l; goto m; l: m: } proc l() { l(); l: }",
		// Labels and numbers of arguments are asked elsewhere, and where a jump stands too.
		"proc main() { goto x; x: x: goto y; break; continue; f(1, 2, 3); f(); } proc f(ref a) { y: }",
		"proc main() { var x; x = f(x); return x; } proc f() { return; }",
	} {
		holdCheck(t, read(t, text), api.Fault{})
	}
	holdCheck(t, api.Program{
		Globals: strings.Fields("a b c d e f g h i j k l m n o p"),
		Procs:   []api.Proc{{Name: "f", Params: params(strings.Fields("pa pb pc *pd pe pf pg *ph")), Vars: strings.Fields("aa ab ac ad ae af ag ah ai aj ak al am an ao ap")}, {Name: "main"}},
	}, api.Fault{})
}

func TestGlobalsThatAreTwice(t *testing.T) {
	names := strings.Fields("a b c d e f g h i j k l m n o p")
	main := []api.Proc{{Name: "main"}}
	for n := range len(names) + 1 {
		holdCheck(t, api.Program{Globals: names[:n], Procs: main}, api.Fault{})
	}
	for i := range names {
		for j := range i {
			row := slices.Clone(names)
			row[i] = row[j]
			holdCheck(t, api.Program{Globals: row, Procs: main}, wrong(0))
			holdCheck(t, api.Program{Globals: row[:i+1], Procs: main}, wrong(0))
			holdCheck(t, api.Program{Globals: row[:i], Procs: main}, api.Fault{})
		}
	}
}

func TestProceduresThatAreTwice(t *testing.T) {
	var procs []api.Proc
	for i := range 16 {
		procs = append(procs, api.Proc{Name: "p" + string(rune('a'+i))})
	}
	for i := range procs {
		row := slices.Clone(procs)
		row[i].Name = "main"
		holdCheck(t, api.Program{Procs: row}, api.Fault{})
		for j := range procs {
			for k := range j {
				again := slices.Clone(row)
				again[j].Name = again[k].Name
				holdCheck(t, api.Program{Procs: again}, wrong(0))
			}
		}
		// Here it is main alone that is missing.
		row[i].Name = "mai"
		holdCheck(t, api.Program{Procs: row}, wrong(0))
	}
	// Two procedures of one name need not be the same one.
	holdCheck(t, read(t, "proc main() { } proc f(a) { } proc f(ref b, c) { }"), wrong(0))
	holdCheck(t, read(t, "proc main() { } proc main() { }"), wrong(0))
	holdCheck(t, read(t, "proc main() { } proc main(a) { }"), wrong(0))
}

func TestProcedureMain(t *testing.T) {
	for _, text := range []string{
		"", "global g;", "global main;", "proc f() { }", "proc f() { var main; main: }", "proc mainx() { }", "proc mai() { f(); } proc f() { }",
		"proc main(a) { }", "proc main(ref a) { }", "proc main(a, b) { var c; }", "proc f() { } proc main(a) { } proc g() { }",
	} {
		holdCheck(t, read(t, text), wrong(0))
	}
}

func TestNamesThatAreTwiceInAHead(t *testing.T) {
	bad := []struct{ globals, head string }{
		{"", "(a, a) { }"}, {"", "(a, ref a) { }"}, {"", "(ref a, ref a) { }"}, {"", "(a, b, c, a) { }"}, {"", "(b, c, a, ref a) { }"},
		{"", "(a) { var a; }"}, {"", "(ref a) { var a; }"}, {"", "(b, a) { var c, a; }"}, {"", "(a, b) { var c, a; }"},
		{"", "() { var a, a; }"}, {"", "() { var a, b, a; }"}, {"", "(c) { var b, a, a; }"},
		{"global a; ", "(a) { }"}, {"global a; ", "(ref a) { }"}, {"global a; ", "() { var a; }"},
		{"global b, a; ", "(c, a) { }"}, {"global b, a; ", "(c) { var d, a; }"}, {"global a, b; ", "(c) { var d, a; }"},
	}
	for _, c := range bad {
		for _, rest := range []string{"proc f%s proc main() { }", "proc main() { } proc f%s", "proc main() { } proc g(d) { var e; d = e; } proc f%s proc h() { }"} {
			holdCheck(t, read(t, c.globals+strings.Replace(rest, "%s", c.head, 1)), wrong(0))
		}
		if strings.HasPrefix(c.head, "()") {
			holdCheck(t, read(t, c.globals+"proc main"+c.head), wrong(0))
			holdCheck(t, read(t, c.globals+"proc f() { } proc main"+c.head), wrong(0))
		}
	}
	// Each pair of the greatest head, and of the globals with it.
	row := strings.Fields("a b c d e f g h i j k l m n o p pa pb pc pd pe pf pg ph aa ab ac ad ae af ag ah ai aj ak al am an ao ap")
	for i := range row {
		for j := range i {
			again := slices.Clone(row)
			again[i] = again[j]
			holdCheck(t, api.Program{Globals: again[:16], Procs: []api.Proc{{Name: "main"}, {Name: "f", Params: params(again[16:24]), Vars: again[24:]}}}, wrong(0))
		}
	}
}

// uses answers statements, each of which names the variable n in one place, and 0 otherwise.
func uses(n string) []api.Stmt {
	zero := num(0)
	var out []api.Stmt
	for _, x := range places(n) {
		out = append(out,
			api.Stmt{Kind: api.SPrint, X: x},
			api.Stmt{Kind: api.SIf, X: x},
			api.Stmt{Kind: api.SWhile, X: x},
			api.Stmt{Kind: api.SReturn, Has: true, X: x},
			api.Stmt{Kind: api.SAssign, Name: "x", X: x},
			api.Stmt{Kind: api.SCall, Proc: "f", Args: []api.Arg{{X: x}}},
			api.Stmt{Kind: api.SCall, Proc: "f", Args: []api.Arg{{X: zero}, {Ref: true, Name: "x"}, {X: x}}},
			api.Stmt{Kind: api.SCall, Proc: "f", Name: "x", Args: []api.Arg{{X: x}, {X: name("x")}}})
	}
	return append(out,
		api.Stmt{Kind: api.SAssign, Name: n, X: zero},
		api.Stmt{Kind: api.SAssign, Name: n, X: name(n)},
		api.Stmt{Kind: api.SRead, Name: n},
		api.Stmt{Kind: api.SCall, Proc: "f", Name: n},
		api.Stmt{Kind: api.SCall, Proc: "f", Name: n, Args: []api.Arg{{X: zero}, {Ref: true, Name: "x"}}},
		api.Stmt{Kind: api.SCall, Proc: "f", Args: []api.Arg{{Ref: true, Name: n}}},
		api.Stmt{Kind: api.SCall, Proc: "f", Args: []api.Arg{{Ref: true, Name: "x"}, {X: zero}, {Ref: true, Name: n}}},
		api.Stmt{Kind: api.SCall, Proc: "f", Name: "x", Args: []api.Arg{{Ref: true, Name: n}, {Ref: true, Name: "x"}}})
}

// places answers expressions that name n at the first, a middle or the last place.
func places(n string) []api.Expr {
	out := []api.Expr{name(n), one(api.XNeg, name(n)), one(api.XNot, one(api.XNot, name(n)))}
	for op := api.XMul; op <= api.XOr; op++ {
		out = append(out, two(op, name(n), num(0)), two(op, num(0), name(n)), two(op, name(n), name("x")), two(op, name("x"), name(n)))
	}
	deep := []api.Expr{name(n), two(api.XAdd, name("x"), two(api.XMul, name(n), name("x")))}
	for _, x := range deep {
		left, right := x, x
		for range 16 {
			left, right = two(api.XOr, left, name("x")), two(api.XSub, num(1), right)
		}
		out = append(out, x, left, right)
	}
	return out
}

// frames lays s into several places of a program of which n is not a variable, each with the id that s has there.
func frames(s api.Stmt) map[string]struct {
	p  api.Program
	at int
} {
	one, stop := num(1), api.Stmt{Kind: api.SBreak}
	deep := s
	for range 11 {
		deep = api.Stmt{Kind: api.SWhile, X: one, Then: []api.Stmt{deep}}
	}
	type frame = struct {
		p  api.Program
		at int
	}
	first := func(at int, stmts ...api.Stmt) frame {
		p := body(stmts, api.Proc{Name: "f", Params: []api.Param{{Name: "o"}}, Vars: []string{"p"}, Body: []api.Stmt{stop}})
		p.Procs[0].Vars = []string{"x"}
		return frame{tree.Number(p), at}
	}
	later := func(at int, stmts ...api.Stmt) frame {
		p := body([]api.Stmt{stop, {Kind: api.SRead, Name: "m"}}, api.Proc{Name: "f", Params: []api.Param{{Name: "x", Ref: true}}, Body: stmts})
		p.Procs[0].Vars = []string{"m"}
		return frame{tree.Number(p), at}
	}
	return map[string]frame{
		"alone":               first(1, s),
		"second":              first(2, stop, s, stop),
		"last of 200":         first(199, append(slices.Repeat([]api.Stmt{stop}, 198), s)...),
		"in a Then":           first(3, api.Stmt{Kind: api.SIf, X: one, Then: []api.Stmt{stop, s}, Else: []api.Stmt{stop}}),
		"in an Else":          first(4, api.Stmt{Kind: api.SIf, X: one, Then: []api.Stmt{stop, stop}, Else: []api.Stmt{s}}),
		"in an Else alone":    first(2, api.Stmt{Kind: api.SIf, X: one, Else: []api.Stmt{s, stop}}),
		"in a loop":           first(3, stop, api.Stmt{Kind: api.SWhile, X: one, Then: []api.Stmt{s, stop}}, stop),
		"behind an inner one": first(3, api.Stmt{Kind: api.SWhile, X: one, Then: []api.Stmt{stop}}, s),
		"twelve deep":         first(12, deep),
		"in a later one":      later(3, s),
		"deep in a later one": later(5, stop, api.Stmt{Kind: api.SIf, X: one, Else: []api.Stmt{s}}),
	}
}

func TestVariablesThatAreNotThere(t *testing.T) {
	for _, s := range uses("n") {
		for where, frame := range frames(s) {
			holdCheck(t, frame.p, wrong(frame.at))
			if t.Failed() {
				t.Fatalf("%s: %+v", where, s)
			}
			holdDeclared(t, frame.p, frame.at)
		}
	}
}

// holdDeclared holds that p is right if n is declared where the faulty statement can see it, and only then.
func holdDeclared(t *testing.T, p api.Program, at int) {
	t.Helper()
	here, _, _ := tree.Find(p, at)
	q := p
	q.Globals = []string{"q", "n"}
	holdCheck(t, q, api.Fault{})
	for i, proc := range p.Procs {
		want := wrong(at)
		if proc.Name == here {
			want = api.Fault{}
		}
		q = p
		q.Procs = slices.Clone(p.Procs)
		q.Procs[i].Vars = append([]string{"n"}, proc.Vars...)
		holdCheck(t, q, want)
		if proc.Name == "main" {
			continue
		}
		for _, ref := range []bool{true, false} {
			q.Procs[i].Vars = proc.Vars
			q.Procs[i].Params = append([]api.Param{{Name: "n", Ref: ref}}, proc.Params...)
			holdCheck(t, q, want)
		}
	}
	// Neither a procedure nor a label of that name is a variable.
	q = p
	q.Procs = append(slices.Clone(p.Procs), api.Proc{Name: "n", End: []string{"n"}})
	q.Procs[0].End = []string{"n"}
	holdCheck(t, q, wrong(at))
}

func TestTargetsOfJumpsAreNoVariables(t *testing.T) {
	for _, target := range []string{"n", "x", "f", "main", "o"} {
		for _, frame := range frames(api.Stmt{Kind: api.SGoto, Name: target}) {
			holdCheck(t, frame.p, api.Fault{})
		}
	}
	for _, s := range []api.Stmt{{Kind: api.SBreak}, {Kind: api.SContinue}, {Kind: api.SReturn}, {Kind: api.SPrint, X: num(7)}, {Kind: api.SCall, Proc: "f"}, {Kind: api.SBreak, Labels: []string{"n", "o"}}} {
		for _, frame := range frames(s) {
			holdCheck(t, frame.p, api.Fault{})
		}
	}
}

func TestCalls(t *testing.T) {
	for _, c := range []struct {
		s     api.Stmt
		right bool
	}{
		{api.Stmt{Kind: api.SCall, Proc: "f"}, true},
		{api.Stmt{Kind: api.SCall, Proc: "f", Name: "x"}, true},
		{api.Stmt{Kind: api.SCall, Proc: "f", Args: []api.Arg{{X: num(1)}, {Ref: true, Name: "x"}, {X: name("x")}}}, true},
		{api.Stmt{Kind: api.SCall, Proc: "n"}, false},
		{api.Stmt{Kind: api.SCall, Proc: "ff"}, false},
		{api.Stmt{Kind: api.SCall, Proc: "n", Name: "x"}, false},
		{api.Stmt{Kind: api.SCall, Proc: "n", Args: []api.Arg{{X: num(1)}}}, false},
		// A variable is no procedure.
		{api.Stmt{Kind: api.SCall, Proc: "x"}, false},
		{api.Stmt{Kind: api.SCall, Proc: "x", Name: "x"}, false},
		{api.Stmt{Kind: api.SCall, Proc: "o"}, false},
		{api.Stmt{Kind: api.SCall, Proc: "main"}, false},
		{api.Stmt{Kind: api.SCall, Proc: "main", Name: "x"}, false},
		{api.Stmt{Kind: api.SCall, Proc: "main", Args: []api.Arg{{Ref: true, Name: "x"}}}, false},
	} {
		for _, frame := range frames(c.s) {
			want := wrong(frame.at)
			if c.right {
				want = api.Fault{}
			}
			holdCheck(t, frame.p, want)
			q := frame.p
			q.Globals = []string{"n", "ff", "main"}
			holdCheck(t, q, want)
		}
	}
	holdCheck(t, read(t, "proc main() { f(); } proc f() { g(); } proc g() { main(); }"), wrong(3))
	holdCheck(t, read(t, "proc main() { var e; e = 1; e(); }"), wrong(2))
	holdCheck(t, read(t, "proc main() { l: l(); }"), wrong(1))
	holdCheck(t, read(t, "proc main() { g(); } proc f() { } proc g() { }"), api.Fault{})
}

// fault is a change that makes a program wrong: the order in which the changes are asked, and what is answered.
type fault struct {
	order  int
	at     int
	what   string
	change func(p *api.Program)
}

const base = "global g; proc main() { var x; x = g; if (x) { print x; } else { f(1); } } proc f(a) { var v; v = a; while (v) { read v; } f(v); } proc k(ref r) { r = 1; f(r); }"

// faults answers ways to make the base wrong.
func faults() []fault {
	out := []fault{
		{0, 0, "a global twice", func(p *api.Program) { p.Globals = append(p.Globals, "g") }},
		{0, 0, "f twice", func(p *api.Program) { p.Procs = append(p.Procs, api.Proc{Name: "f"}) }},
		{0, 0, "no main", func(p *api.Program) { p.Procs[0].Name = "mein" }},
		{0, 0, "main of a parameter", func(p *api.Program) { p.Procs[0].Params = []api.Param{{Name: "m"}} }},
	}
	for i, order := range []int{1, 6, 11} {
		out = append(out,
			fault{order, 0, "a variable twice", func(p *api.Program) { p.Procs[i].Vars = append(p.Procs[i].Vars, "z", "z") }},
			fault{order, 0, "a variable that is a global", func(p *api.Program) { p.Procs[i].Vars = append(p.Procs[i].Vars, "g") }})
		if i > 0 {
			out = append(out,
				fault{order, 0, "a parameter twice", func(p *api.Program) {
					p.Procs[i].Params = append(p.Procs[i].Params, api.Param{Name: "y"}, api.Param{Name: "y"})
				}},
				fault{order, 0, "a parameter that is a global", func(p *api.Program) { p.Procs[i].Params = append(p.Procs[i].Params, api.Param{Name: "g", Ref: true}) }},
				fault{order, 0, "a parameter that is a variable", func(p *api.Program) {
					p.Procs[i].Params = append(p.Procs[i].Params, api.Param{Name: "w"})
					p.Procs[i].Vars = append(p.Procs[i].Vars, "w")
				}})
		}
	}
	for id, order := range map[int]int{1: 2, 2: 3, 3: 4, 4: 5, 5: 7, 6: 8, 7: 9, 8: 10, 9: 12, 10: 13} {
		out = append(out, fault{order, id, "a statement", func(p *api.Program) {
			for _, proc := range p.Procs {
				spoil(proc.Body, id)
			}
		}})
	}
	return out
}

// spoil makes the statement with an id wrong, in a way that hangs on its kind.
func spoil(block []api.Stmt, id int) {
	for i := range block {
		s := &block[i]
		spoil(s.Then, id)
		spoil(s.Else, id)
		switch {
		case s.Id != id:
		case s.Kind == api.SRead:
			s.Name = "none"
		case s.Kind == api.SCall && id%4 == 0:
			s.Proc = "main"
		case s.Kind == api.SCall:
			s.Proc = "none"
		default:
			s.X = name("none")
		}
	}
}

func TestTwoFaultsAtOnce(t *testing.T) {
	all := faults()
	holdCheck(t, read(t, base), api.Fault{})
	for _, a := range all {
		for _, b := range all {
			p := read(t, base)
			a.change(&p)
			b.change(&p)
			first := a
			if b.order < a.order {
				first = b
			}
			if got := Check(p); got != wrong(first.at) {
				t.Errorf("P6.2: Check of %s at %d and %s at %d = %v", a.what, a.at, b.what, b.at, got)
			}
		}
	}
	if len(all) < 25 {
		t.Errorf("only %d faults", len(all))
	}
}

func TestEachStatementOfMany(t *testing.T) {
	p := api.Program{Globals: []string{"g"}}
	for _, s := range strings.Fields("a b c main d e f h") {
		p.Procs = append(p.Procs, api.Proc{Name: s, Body: slices.Repeat([]api.Stmt{{Kind: api.SIf, X: name("g"), Then: []api.Stmt{{Kind: api.SRead, Name: "g"}, {Kind: api.SWhile, X: num(1), Then: []api.Stmt{{Kind: api.SPrint, X: name("g")}}}}, Else: []api.Stmt{{Kind: api.SRead, Name: "g"}}}}, 5)})
	}
	p = tree.Number(p)
	holdCheck(t, p, api.Fault{})
	for id := 1; id <= 200; id++ {
		q := tree.Number(p)
		for _, proc := range q.Procs {
			spoil(proc.Body, id)
		}
		holdCheck(t, q, wrong(id))
		for _, proc := range q.Procs {
			spoil(proc.Body, 200)
			spoil(proc.Body, min(200, id+1))
		}
		holdCheck(t, q, wrong(id))
	}
	if n := tree.Count(p); n != 200 {
		t.Errorf("%d statements", n)
	}
}

// great answers an expression of depth 20 and 2^19 names x, with another name at the first or last place, if any.
func great(first, last string) api.Expr {
	all := name("x")
	left, right := name(first), name(last)
	for depth := 2; depth < 20; depth++ {
		left, right = two(api.XAdd, left, all), two(api.XAdd, all, right)
		all = two(api.XAdd, all, all)
	}
	return two(api.XAdd, left, right)
}

func TestGreatExpressions(t *testing.T) {
	for _, c := range []struct {
		first, last string
		want        api.Fault
	}{{"x", "x", api.Fault{}}, {"n", "x", wrong(1)}, {"x", "n", wrong(1)}, {"n", "n", wrong(1)}, {"g", "x", api.Fault{}}, {"x", "main", wrong(1)}} {
		x := great(c.first, c.last)
		for _, s := range []api.Stmt{{Id: 1, Kind: api.SPrint, X: x}, {Id: 1, Kind: api.SCall, Proc: "f", Args: []api.Arg{{X: num(1)}, {X: x}}}} {
			holdGreat(t, api.Program{Globals: []string{"g"}, Procs: []api.Proc{{Name: "f"}, {Name: "main", Vars: []string{"x"}, Body: []api.Stmt{s}}}}, c.want)
		}
	}
}

// holdGreat does not show the program, which may be too great for that.
func holdGreat(t *testing.T, p api.Program, want api.Fault) {
	t.Helper()
	if got := Check(p); got != want {
		t.Errorf("P6.2: Check of a great program = %v; want %v", got, want)
	}
}

func TestManyArguments(t *testing.T) {
	call := func(args []api.Arg) api.Program {
		return api.Program{Procs: []api.Proc{{Name: "main", Vars: []string{"x"}, Body: []api.Stmt{{Id: 1, Kind: api.SCall, Proc: "f", Args: args}}}, {Name: "f"}}}
	}
	args := slices.Repeat([]api.Arg{{X: two(api.XAdd, name("x"), num(1))}, {Ref: true, Name: "x"}}, 50000)
	holdGreat(t, call(args), api.Fault{})
	for _, at := range []int{0, 1, 50000, 99998, 99999} {
		was := args[at]
		for _, bad := range []api.Arg{{X: name("y")}, {Ref: true, Name: "y"}} {
			args[at] = bad
			holdGreat(t, call(args), wrong(1))
		}
		args[at] = was
	}
	many := slices.Repeat([]string{"x"}, 200000)
	holdGreat(t, api.Program{Procs: []api.Proc{{Name: "main", Body: []api.Stmt{{Id: 1, Kind: api.SBreak, Labels: many}}, End: many}}}, api.Fault{})
}
