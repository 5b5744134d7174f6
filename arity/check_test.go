package arity

import (
	"fmt"
	"math"
	"reflect"
	"slices"
	"strings"
	"testing"

	"whittler/api"
	"whittler/scope"
	"whittler/tree"
)

func TestExampleOfTheChapter(t *testing.T) {
	holdCheck(t, read(t, "proc main() { var x; f(ref x); f(x); } proc f(ref a) { }"), wrong(2))
}

func TestRightPrograms(t *testing.T) {
	holdCheck(t, ordinary(), api.Fault{})
	for _, text := range []string{
		"proc main() { }",
		"global g; proc main() { g = g; read g; print g; if (g) { break; } else { continue; } while (g) { goto l; } return g; return; l: }",
		"proc f() { f(); g(); } proc g() { f(); g(); } proc main() { f(); g(); }",
		"proc f(a) { f(a); g(ref a); } proc g(ref b) { f(b); f(-b); g(ref b); } proc main() { var c; f(c); f(1); g(ref c); c = g(ref c); }",
		"global g; proc main() { g = f(g, ref g, g + g, ref g); } proc f(a, ref b, c, ref d) { a = f(a, ref b, c, ref d); b = f(a, ref a, a, ref a); }",
		// Each variable may be handed in either way, whatever it is itself; whether two are the same one is asked elsewhere.
		"global g; proc main() { var x; k(ref x, ref x); k(ref g, ref g); } proc k(ref a, ref b) { var v; k(ref b, ref a); k(ref v, ref g); } proc m(a) { k(ref a, ref a); }",
		// One name may be several things.
		"global g; proc main() { var f; f = f(f); f(f); } proc f(f) { f = f(f); }",
		// Labels and jumps are asked elsewhere.
		"proc main() { f(1); goto f; break; continue; } proc f(a) { a: }",
		// A procedure that gives nothing may be asked for something.
		"proc main() { var x; x = f(1); f(x); } proc f(a) { return; }",
		"proc main() { f(1, 2, 3, 4, 5, 6, 7, 8); } proc f(a, b, c, d, e, f, g, h) { f(a, b, c, d, e, f, g, h); }",
		"proc main() { var x; f(ref x, ref x, ref x, ref x, ref x, ref x, ref x, ref x); } proc f(ref a, ref b, ref c, ref d, ref e, ref f, ref g, ref h) { }",
	} {
		holdCheck(t, read(t, text), api.Fault{})
	}
}

func TestCallsThatDoNotFit(t *testing.T) {
	for _, c := range []struct {
		text string
		at   int
	}{
		{"proc main() { f(1); } proc f() { }", 1},
		{"proc main() { f(); } proc f(a) { }", 1},
		{"proc main() { f(1, 2); } proc f(a) { }", 1},
		{"proc main() { f(1); } proc f(a, b) { }", 1},
		{"proc main() { f(); } proc f(a, b) { }", 1},
		{"proc main() { f(1, 2, 3); } proc f(a, b) { }", 1},
		{"proc main() { f(1, 2, 3, 4, 5, 6, 7, 8, 9); } proc f(a, b, c, d, e, f, g, h) { }", 1},
		{"proc main() { f(1, 2, 3, 4, 5, 6, 7); } proc f(a, b, c, d, e, f, g, h) { }", 1},
		{"proc main() { var x; x = f(ref x); } proc f(a) { }", 1},
		{"proc main() { var x; x = f(x); } proc f(ref a) { }", 1},
		{"proc main() { var x; f(1); } proc f(ref a) { }", 1},
		{"proc main() { var x; f(ref x, ref x); } proc f(a, ref b) { }", 1},
		{"proc main() { var x; f(ref x, x); } proc f(a, ref b) { }", 1},
		{"proc main() { var x; f(x, x); } proc f(a, ref b) { }", 1},
		{"proc main() { var x; f(x + 1, ref x); f(x + 1); } proc f(a, ref b) { }", 2},
		{"proc main() { f(1); } proc f(a) { f(ref a); }", 2},
		{"proc main() { f(1); } proc f(a) { f(a); } proc k() { f(2, 3); }", 3},
		{"proc main() { print 1; l: m: f(); print 2; l: } proc f(a) { }", 2},
		{"proc k() { } proc main() { k(); } proc f() { k(1); }", 2},
		// A procedure that no call reaches is asked too, and what comes behind a jump.
		{"proc main() { return; f(); } proc f(a) { }", 2},
		{"proc main() { } proc f(a) { while (0) { f(); } }", 2},
		// The name that gets what is given does not count as an argument.
		{"proc main() { var x; x = f(); } proc f(a) { }", 1},
		{"proc main() { var x; x = f(x); } proc f(a, b) { }", 1},
	} {
		holdCheck(t, read(t, c.text), wrong(c.at))
	}
}

// The first call that does not fit is told, one ahead of those in a Then, and a Then ahead of an Else.
func TestFirstOfSeveral(t *testing.T) {
	for _, c := range []struct {
		text string
		at   int
	}{
		{"f(1); f(2);", 1},
		{"f(); f(2);", 2},
		{"if (1) { f(1); } else { f(2); }", 2},
		{"if (1) { f(); } else { f(2); }", 3},
		{"if (1) { f(1); } else { f(); }", 2},
		{"if (1) { f(); } else { f(); } f(1);", 4},
		{"if (1) { f(); f(1); } else { f(2); } f(1);", 3},
		{"if (1) { } else { f(2); } f(1);", 2},
		{"if (1) { f(); f(); f(); } else { f(); f(1); }", 6},
		{"while (1) { f(1); } f(2);", 2},
		{"while (1) { f(); } f(2);", 3},
		{"while (1) { while (2) { f(); } f(1); } f(2);", 4},
		{"if (1) { if (2) { f(); } else { f(1); } f(2); } else { f(3); } f(4);", 4},
		{"if (1) { if (2) { f(); } else { f(); } f(2); } else { f(3); } f(4);", 5},
		{"if (1) { if (2) { f(); } else { f(); } f(); } else { f(3); } f(4);", 6},
		{"f(); if (1) { } else { } f(4); if (1) { f(5); }", 3},
	} {
		p := read(t, "proc main() { "+c.text+" } proc f() { f(0); }")
		holdCheck(t, p, wrong(c.at))
		p = read(t, "proc f() { print 1; f(); print 2; } proc main() { "+c.text+" } proc k() { f(0); }")
		holdCheck(t, p, wrong(c.at+3))
	}
}

// holes is a program with calls that fit in all sorts of places.
const holes = "global g; proc main() { var x; f(1); if (x) { f(x); k(ref x); while (x) { x = f(2); } } else { k(ref g); if (0) { } else { f(g); print x; } } k(ref x); } " +
	"proc f(a) { if (a) { while (a) { if (a) { } else { f(a); } } f(3); } } proc k(ref r) { x(); f(r); k(ref r); } proc x() { while (1) { } x(); }"

// spoil makes the call with an id one that does not fit, and reports whether there is such a call.
func spoil(block []api.Stmt, id, way int) bool {
	for i := range block {
		s := &block[i]
		if spoil(s.Then, id, way) || spoil(s.Else, id, way) {
			return true
		}
		if s.Id != id || s.Kind != api.SCall {
			continue
		}
		switch {
		case way == 0:
			s.Args = append(s.Args, val(num(1)))
		case way == 1:
			s.Args = append(s.Args, ref("g"))
		case len(s.Args) == 0:
			return false
		case way == 2:
			s.Args = s.Args[:len(s.Args)-1]
		case s.Args[0].Ref:
			s.Args[0] = val(name("g"))
		default:
			s.Args[0] = ref("g")
		}
		return true
	}
	return false
}

func TestTwoThatDoNotFit(t *testing.T) {
	holdCheck(t, read(t, holes), api.Fault{})
	n, spoilt := tree.Count(read(t, holes)), 0
	for a := 1; a <= n; a++ {
		for b := 1; b <= n; b++ {
			for way := range 16 {
				p := read(t, holes)
				first := 0
				for _, proc := range p.Procs {
					if spoil(proc.Body, a, way%4) && (first == 0 || a < first) {
						first = a
					}
					if a != b && spoil(proc.Body, b, way/4) && (first == 0 || b < first) {
						first = b
					}
				}
				if first == 0 {
					holdCheck(t, p, api.Fault{})
					continue
				}
				spoilt++
				holdCheck(t, p, wrong(first))
			}
		}
	}
	if spoilt < 3000 {
		t.Errorf("only %d programs with calls that do not fit", spoilt)
	}
}

func TestEachStatementOfMany(t *testing.T) {
	p := api.Program{Globals: []string{"g"}}
	for _, s := range strings.Fields("a b c main d e f h") {
		body := slices.Repeat([]api.Stmt{{Kind: api.SWhile, X: num(1), Then: []api.Stmt{call("a"), {Kind: api.SIf, X: num(1), Then: []api.Stmt{call("b")}, Else: []api.Stmt{call("c")}}}}}, 5)
		p.Procs = append(p.Procs, api.Proc{Name: s, Body: body})
	}
	p = tree.Number(p)
	holdCheck(t, p, api.Fault{})
	calls := 0
	for id := 1; id <= 200; id++ {
		q := tree.Number(p)
		for _, proc := range q.Procs {
			for later := id; later <= 200; later += 7 {
				spoil(proc.Body, later, 0)
			}
		}
		_, s, _ := tree.Find(p, id)
		if s.Kind == api.SCall {
			calls++
			holdCheck(t, q, wrong(id))
		}
	}
	if n := tree.Count(p); n != 200 || calls != 120 {
		t.Errorf("%d statements, %d calls", n, calls)
	}
}

func TestDeepestStatements(t *testing.T) {
	for _, bad := range []bool{false, true} {
		for way := range 2 {
			s, want := call("f", val(num(1))), api.Fault{}
			if bad {
				s, want = call("f"), wrong(12)
			}
			for range 11 {
				outer := api.Stmt{Kind: api.SIf, X: num(1)}
				if way == 0 {
					outer.Then = []api.Stmt{s}
				} else {
					outer.Else = []api.Stmt{s}
				}
				s = outer
			}
			p := tree.Number(api.Program{Procs: []api.Proc{{Name: "main", Body: []api.Stmt{s}}, {Name: "f", Params: params("v"), Body: []api.Stmt{call("f")}}}})
			if !bad {
				want = wrong(13)
			}
			holdCheck(t, p, want)
		}
	}
}

// Programs for which scope.Check tells a fault have that of the form alone, at 0, wherever the other
// fault is, and whether or not their calls fit.
func TestProgramsWithFaultsOfNames(t *testing.T) {
	for _, text := range []string{
		"", "global g;", "global main;", "proc f() { }", "proc k() { k(); } proc f(a) { f(a); }", "proc main(a) { }", "proc main(ref a) { f(); } proc f() { }",
		"global g, g; proc main() { } proc k() { }", "proc main() { } proc main() { }", "proc main() { k(); } proc k() { } proc k() { }",
		"proc main() { f(1); } proc f(a) { } proc f(ref a) { }", "proc main() { var x, x; k(); } proc k() { }",
		"global g; proc main() { } proc f(g) { }", "global g; proc main() { } proc k() { var g; }", "proc main() { } proc f(a, a) { }", "proc main() { } proc f(a) { var a; }",
		"proc main() { print x; k(); } proc k() { }", "proc main() { k(); print x; } proc k() { }", "proc main() { k(); x = 1; } proc k() { }", "proc main() { k(); read x; } proc k() { }",
		"proc main() { f(x); } proc f(a) { }", "proc main() { f(ref x); } proc f(ref a) { }", "proc main() { x = f(1); } proc f(a) { }",
		"proc main() { k(); none(); } proc k() { }", "proc main() { none(1); f(); } proc f(a) { }", "proc main() { var k; k(); }",
		"proc main() { main(); }", "proc main() { main(1); }", "proc main() { k(); } proc k() { main(); }", "proc main() { var x; x = main(); } proc f() { }",
		// Calls that do not fit as well, ahead of the other fault and behind it.
		"proc main() { f(); print x; } proc f(a) { }", "proc main() { print x; f(); } proc f(a) { }", "proc main() { f(1); } proc f() { f(x); }",
		"proc main() { var x; f(); } proc f(a) { } proc k(x, x) { }", "global g, g; proc main() { f(); } proc f(a) { f(ref a); }", "proc f(a) { f(); }",
		"proc main() { f(x, 1); } proc f(ref a) { }", "proc main() { if (1) { f(); } else { x = 1; } } proc f(a) { }",
	} {
		holdNothing(t, read(t, text), text)
	}
	holdNothing(t, api.Program{}, "empty")
}

func TestProgramsThatAreNotWellFormed(t *testing.T) {
	main, stop := api.Proc{Name: "main"}, api.Stmt{Kind: api.SBreak}
	of := func(stmts ...api.Stmt) api.Program {
		return tree.Number(api.Program{Procs: []api.Proc{{Name: "main", Vars: []string{"x"}, Body: stmts}, {Name: "f", Params: params("v")}, {Name: "k"}}})
	}
	for what, p := range map[string]api.Program{
		"a bad global":              {Globals: []string{"a", "A"}, Procs: []api.Proc{main, {Name: "k"}}},
		"17 globals":                {Globals: strings.Fields("a b c d e f g h i j k l m n o p q"), Procs: []api.Proc{main}},
		"17 procedures":             {Procs: append(slices.Repeat([]api.Proc{{Name: "f"}}, 16), main)},
		"9 parameters":              {Procs: []api.Proc{main, {Name: "f", Params: params("vvvvvvvvv")}}},
		"17 variables":              {Procs: []api.Proc{{Name: "main", Vars: strings.Fields("a b c d e f g h i j k l m n o p q")}}},
		"a bad procedure":           {Procs: []api.Proc{main, {Name: ""}, {Name: "k"}}},
		"a bad parameter":           {Procs: []api.Proc{main, {Name: "p", Params: []api.Param{{Name: "a"}, {Name: "if"}}}}},
		"a bad variable":            {Procs: []api.Proc{{Name: "main", Vars: []string{"abcdefghi"}}, {Name: "k"}}},
		"a bad label at an end":     {Procs: []api.Proc{{Name: "main", End: []string{"1"}}, {Name: "k"}}},
		"a bad label":               of(api.Stmt{Kind: api.SBreak, Labels: []string{"ref"}}),
		"a bad jump":                of(api.Stmt{Kind: api.SGoto, Name: "L"}),
		"no kind":                   of(api.Stmt{}),
		"a kind too great":          of(stop, api.Stmt{Kind: 11}),
		"no id":                     {Procs: []api.Proc{{Name: "main", Body: []api.Stmt{call("k")}}, {Name: "k"}}},
		"an id too great":           {Procs: []api.Proc{main, {Name: "k", Body: []api.Stmt{{Id: 2, Kind: api.SBreak}}}}},
		"201 statements":            of(slices.Repeat([]api.Stmt{stop}, 201)...),
		"201 calls that do not fit": of(slices.Repeat([]api.Stmt{call("f")}, 201)...),
		"a call without Proc":       of(api.Stmt{Kind: api.SCall}),
		"a call with a Then":        of(api.Stmt{Kind: api.SCall, Proc: "k", Then: []api.Stmt{stop}}),
		"a call with an X":          of(api.Stmt{Kind: api.SCall, Proc: "k", X: num(1)}),
		"an argument of nothing":    of(call("f", api.Arg{})),
		"an argument of both":       of(call("f", api.Arg{Ref: true, Name: "x", X: num(1)})),
		"an argument with a name":   of(call("f", api.Arg{Name: "x", X: num(1)})),
		"a print with arguments":    of(api.Stmt{Kind: api.SPrint, X: num(1), Args: []api.Arg{val(num(1))}}),
		"a negative number":         of(call("f", val(num(-1)))),
		"calls that do not fit":     of(call("f"), api.Stmt{Kind: api.SPrint, X: num(-1)}),
		"a fault of names as well":  {Globals: []string{"a", "a"}, Procs: []api.Proc{main, {Name: "f", Body: []api.Stmt{{Id: 2, Kind: api.SCall, Proc: "f", Args: args("v", "z")}}}}},
	} {
		holdNothing(t, p, what)
		if tree.May(p) {
			t.Errorf("P3.1: a program is well-formed, %s", what)
		}
	}
}

func TestTreesThatAreTooDeep(t *testing.T) {
	of := func(stmts ...api.Stmt) api.Program {
		return api.Program{Procs: []api.Proc{{Name: "main", Vars: []string{"x"}, Body: stmts}, {Name: "f", Params: params("v")}, {Name: "k"}}}
	}
	x := name("x")
	for range 19 {
		x = one(api.XNeg, x)
	}
	holdCheck(t, tree.Number(of(call("f", val(x)))), api.Fault{})
	holdCheck(t, tree.Number(of(call("f", val(x), val(x)))), wrong(1))
	holdNothing(t, tree.Number(of(call("f", val(one(api.XNeg, x))))), "an expression too deep")
	for range 300000 {
		x = one(api.XNot, x)
	}
	holdNothing(t, of(api.Stmt{Id: 1, Kind: api.SCall, Proc: "f", Args: []api.Arg{val(x)}}), "an expression much too deep")
	s := call("k")
	for range 12 {
		s = api.Stmt{Kind: api.SIf, X: num(1), Else: []api.Stmt{s}}
	}
	holdNothing(t, tree.Number(of(s)), "statements too deep")
	block := []api.Stmt{{Id: 1, Kind: api.SIf, X: num(1)}}
	for range 300000 {
		block = []api.Stmt{{Id: 1, Kind: api.SIf, X: num(1), Then: block}}
	}
	holdNothing(t, of(block...), "statements much too deep")
	holdNothing(t, of(slices.Repeat([]api.Stmt{{Id: 1, Kind: api.SCall, Proc: "f"}}, 300000)...), "many statements")
}

func TestGreatArguments(t *testing.T) {
	all := name("x")
	for range 17 {
		all = two(api.XAdd, all, all)
	}
	p := api.Program{Procs: []api.Proc{{Name: "main", Vars: []string{"x"}, Body: []api.Stmt{{Id: 1, Kind: api.SCall, Proc: "f", Args: []api.Arg{val(all), ref("x"), val(all)}}}}, {Name: "f", Params: params("vrv")}}}
	if Check(p) != (api.Fault{}) || !Fits(p, p.Procs[0].Body[0]) {
		t.Errorf("P7.1: great expressions do not fit")
	}
	p.Procs[1].Params[2].Ref = true
	if Check(p) != wrong(1) || Fits(p, p.Procs[0].Body[0]) {
		t.Errorf("P7.1: great expressions fit")
	}
	p.Procs[0].Body[0].Args = slices.Repeat([]api.Arg{val(name("x")), ref("x")}, 100000)
	if Check(p) != wrong(1) || Fits(p, p.Procs[0].Body[0]) {
		t.Errorf("P7.1: too many arguments fit")
	}
}

// A program with one field changed is asked exactly if its names still are right.
func TestEachFieldChanged(t *testing.T) {
	right, misfits, bad := 0, 0, 0
	hold := func(p api.Program, path string) {
		if scope.Check(p) != (api.Fault{}) {
			bad++
			holdNothing(t, p, "changed at "+path)
			return
		}
		want := wantedFault(t, p)
		if want == (api.Fault{}) {
			right++
		} else {
			misfits++
		}
		holdCheck(t, p, want)
	}
	p := ordinary()
	within(&p, func(path string, v reflect.Value) {
		was := reflect.New(v.Type()).Elem()
		was.Set(v)
		switch v.Kind() {
		case reflect.String:
			for _, s := range []string{"", "a", "b", "g", "x", "v", "f", "k", "main", "abcdefgh", "abcdefghi", "while", "Z"} {
				v.SetString(s)
				hold(p, path)
			}
		case reflect.Int, reflect.Int64:
			for _, n := range []int64{math.MinInt64, -1, 0, 1, 2, 3, 4, 8, 11, 17, math.MaxInt64} {
				v.SetInt(n)
				hold(p, path)
			}
		case reflect.Bool:
			v.SetBool(!v.Bool())
			hold(p, path)
		case reflect.Slice:
			v.SetZero()
			hold(p, path)
			v.Set(reflect.MakeSlice(v.Type(), 1, 1))
			hold(p, path)
			if was.Len() > 0 {
				v.Set(was.Slice(0, was.Len()-1))
				hold(p, path)
				v.Set(reflect.AppendSlice(was.Slice3(0, was.Len(), was.Len()), was))
				hold(p, path)
			}
		}
		v.Set(was)
	})
	if right < 200 || misfits < 10 || bad < 700 {
		t.Errorf("%d changed programs are right, %d have a call that does not fit, %d have another fault", right, misfits, bad)
	}
}

func TestCheckLeavesAllAsItIs(t *testing.T) {
	p := roomy(ordinary())
	before := snapshot(p)
	holdCheck(t, p, api.Fault{})
	p.Procs[0].Body[1].Else[1].Proc = "k"
	before.Procs[0].Body[1].Else[1].Proc = "k"
	holdCheck(t, p, wrong(8))
	p.Globals[1] = "g"
	before.Globals[1] = "g"
	holdCheck(t, p, api.Fault{Code: api.ErrForm})
	if !reflect.DeepEqual(snapshot(p), before) {
		t.Errorf("P0.3: Check changes what it is given")
	}
}

func TestCheckTakesNilAndEmptyAlike(t *testing.T) {
	for _, asNil := range []bool{true, false} {
		holdCheck(t, empties(ordinary(), asNil), api.Fault{})
		holdCheck(t, empties(read(t, "proc main() { k(); if (1) { } else { k(1); } } proc k() { }"), asNil), wrong(3))
		holdCheck(t, empties(api.Program{}, asNil), api.Fault{Code: api.ErrForm})
	}
}

// A call is answered alike however often it is made, and whatever was asked ahead of it.
func TestAnswersHangOnArgumentsAlone(t *testing.T) {
	texts := []string{holes, "", "proc main() { f(); } proc f(a) { }", "proc main() { f(1); } proc f(a) { }", "proc main() { f(x); } proc f(a) { }", "proc main() { print 1; f(ref f); } proc f() { }"}
	tell := func(text string) string {
		p := read(t, text)
		return fmt.Sprint(Check(p), Fits(p, call("f")), Fits(p, call("f", val(num(1)))))
	}
	var first []string
	for _, text := range texts {
		first = append(first, tell(text))
	}
	for range 3 {
		for i := len(texts) - 1; i >= 0; i-- {
			if got := tell(texts[i]); got != first[i] {
				t.Errorf("P0.5: of %q is told %s and then %s", texts[i], first[i], got)
			}
		}
	}
}
