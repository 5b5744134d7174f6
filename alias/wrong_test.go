package alias

import (
	"fmt"
	"math"
	"reflect"
	"slices"
	"strings"
	"testing"

	"whittler/api"
	"whittler/arity"
	"whittler/scope"
	"whittler/tree"
)

// Programs for which arity.Check tells a fault have that of the form alone, at 0, wherever that fault is,
// and whether or not a variable gets a second name.
func TestProgramsWithFaultsOfCalls(t *testing.T) {
	for _, text := range []string{
		"proc main() { f(1); } proc f() { }", "proc main() { f(); } proc f(a) { }", "proc main() { f(1); } proc f(ref a) { }", "proc main() { var x; f(ref x); } proc f(a) { }",
		"proc main() { var x; f(ref x, ref x); } proc f(ref a) { }", "proc main() { var x; f(ref x, ref x); } proc f(ref a, b) { }", "proc main() { var x; f(ref x, ref x); } proc f(a, b) { }",
		"proc main() { var x; x = f(ref x); } proc f(ref a, ref b) { }", "global g; proc main() { f(ref g); } proc f(a) { print g; }",
		// Ahead of a call that gives a variable a second name, and behind it.
		"proc main() { var x; k(1); f(ref x, ref x); } proc f(ref a, ref b) { } proc k() { }", "proc main() { var x; f(ref x, ref x); k(1); } proc f(ref a, ref b) { } proc k() { }",
		"proc main() { var x; x = f(ref x); } proc f(ref a) { while (0) { f(a); } }", "proc k() { k(1); } proc main() { var x; x = f(ref x); } proc f(ref a) { }", "global g; proc main() { f(ref g); } proc f(ref a) { print g; } proc k() { f(); }",
		// In a procedure that nobody calls.
		"proc main() { var x, y; f(ref x, ref y); } proc f(ref a, ref b) { } proc k() { k(2); }", "proc main() { d(); } proc d() { } proc k(a) { return; k(); }",
	} {
		p := read(t, text)
		if scope.Check(p) != (api.Fault{}) {
			t.Errorf("P6.2: %q has a fault of its names", text)
		}
		holdNothing(t, p, text)
	}
}

func TestProgramsWithFaultsOfNames(t *testing.T) {
	for _, text := range []string{
		"", "global g;", "global main;", "proc f() { }", "proc k(ref a) { var x; k(ref x); } proc f(ref a, ref b) { f(ref a, ref a); }", "proc main(a) { }", "proc main(ref a) { f(ref a, ref a); } proc f(ref a, ref b) { }",
		"global g, g; proc main() { } proc k() { }", "proc main() { } proc main() { }", "proc main() { d(); } proc d() { } proc d() { }", "proc main() { var x; k(ref x); } proc k(ref a) { } proc k(ref a, ref b) { }",
		"proc main() { var x, x; d(); } proc d() { }", "global g; proc main() { } proc f(g) { }", "global g; proc main() { } proc k() { var g; }", "proc main() { } proc f(ref a, ref a) { }", "proc main() { } proc f(ref a) { var a; }",
		"global g; proc main() { k(ref g); } proc k(ref g) { }", "global g; proc main() { k(ref g); } proc k(ref a) { var g; g = 1; }",
		"proc main() { print x; d(); } proc d() { }", "proc main() { d(); print x; } proc d() { }", "proc main() { k(ref x); } proc k(ref a) { }", "proc main() { x = d(); } proc d() { }", "proc main() { x = k(ref x); } proc k(ref a) { }", "proc main() { f(ref x, ref x); } proc f(ref a, ref b) { }",
		"proc main() { d(); none(); } proc d() { }", "proc main() { var x; none(ref x, ref x); d(); } proc d() { }", "proc main() { var k; k(ref k); }",
		"proc main() { main(); }", "proc main() { d(); } proc d() { main(); }", "proc main() { var x; x = main(); } proc d() { }",
		// Beside a call that gives a variable a second name.
		"proc main() { var x; f(ref x, ref x); print y; } proc f(ref a, ref b) { }", "proc main() { print y; } proc f(ref a, ref b) { f(ref a, ref a); }", "proc main() { var x; x = k(ref x); } proc k(ref a) { } proc f(x, x) { }", "global g, g; proc main() { k(ref g); } proc k(ref a) { g = 1; }",
	} {
		holdNothing(t, read(t, text), text)
	}
	holdNothing(t, api.Program{}, "empty")
	holdNothing(t, api.Program{Globals: []string{}, Procs: []api.Proc{}}, "empty slices")
}

func TestProgramsThatAreNotWellFormed(t *testing.T) {
	main, stop := api.Proc{Name: "main", Vars: []string{"x"}}, api.Stmt{Kind: api.SBreak}
	rest := []api.Proc{{Name: "f", Params: []api.Param{{Name: "a", Ref: true}, {Name: "b", Ref: true}}}, {Name: "k", Params: []api.Param{{Name: "a", Ref: true}}}, {Name: "d"}}
	of := func(stmts ...api.Stmt) api.Program {
		return tree.Number(api.Program{Globals: []string{"g"}, Procs: append([]api.Proc{{Name: "main", Vars: []string{"x", "y"}, Body: append([]api.Stmt{call("f", ref("x"), ref("y"))}, stmts...)}}, rest...)})
	}
	with := func(procs ...api.Proc) api.Program { return api.Program{Globals: []string{"g"}, Procs: procs} }
	holdCheck(t, of(), api.Fault{})
	for what, p := range map[string]api.Program{
		"a bad global":             {Globals: []string{"g", "A"}, Procs: append([]api.Proc{main}, rest...)},
		"17 globals":               {Globals: strings.Fields("a1 b1 c d e f g h i j k l m n o p q"), Procs: append([]api.Proc{main}, rest...)},
		"17 procedures":            with(append(slices.Repeat([]api.Proc{{Name: "d"}}, 16), main)...),
		"9 parameters":             with(main, api.Proc{Name: "f", Params: slices.Repeat([]api.Param{{Name: "a", Ref: true}}, 9)}),
		"17 variables":             with(api.Proc{Name: "main", Vars: strings.Fields("a b c d e f h i j k l m n o p q r")}, rest[2]),
		"a bad procedure":          with(main, api.Proc{Name: ""}, rest[2]),
		"a bad parameter":          with(main, api.Proc{Name: "p", Params: []api.Param{{Name: "a"}, {Name: "if"}}}, rest[2]),
		"a bad variable":           with(api.Proc{Name: "main", Vars: []string{"abcdefghi"}}, rest[2]),
		"a bad label at an end":    with(api.Proc{Name: "main", End: []string{"1"}}, rest[2]),
		"a bad label":              of(api.Stmt{Kind: api.SBreak, Labels: []string{"ref"}}),
		"a bad jump":               of(api.Stmt{Kind: api.SGoto, Name: "L"}),
		"no kind":                  of(api.Stmt{}),
		"a kind too great":         of(stop, api.Stmt{Kind: 11}),
		"no id":                    with(api.Proc{Name: "main", Body: []api.Stmt{call("d")}}, rest[2]),
		"an id too great":          with(main, api.Proc{Name: "d", Body: []api.Stmt{{Id: 2, Kind: api.SBreak}}}),
		"an id that is twice":      with(api.Proc{Name: "main", Body: []api.Stmt{{Id: 1, Kind: api.SBreak}}}, api.Proc{Name: "d", Body: []api.Stmt{{Id: 1, Kind: api.SBreak}}}),
		"201 statements":           of(slices.Repeat([]api.Stmt{stop}, 200)...),
		"201 calls":                of(slices.Repeat([]api.Stmt{call("f", ref("x"), ref("x"))}, 200)...),
		"a call without Proc":      of(api.Stmt{Kind: api.SCall}),
		"a call with a Then":       of(api.Stmt{Kind: api.SCall, Proc: "d", Then: []api.Stmt{stop}}),
		"a call with an X":         of(api.Stmt{Kind: api.SCall, Proc: "d", X: num(1)}),
		"an argument of nothing":   of(call("k", api.Arg{})),
		"an argument of no name":   of(call("k", api.Arg{Ref: true})),
		"two of no name":           of(call("f", api.Arg{Ref: true}, api.Arg{Ref: true})),
		"an argument of both":      of(call("k", api.Arg{Ref: true, Name: "x", X: num(1)})),
		"one that is no variable":  of(call("k", ref("while"))),
		"a print with arguments":   of(api.Stmt{Kind: api.SPrint, X: num(1), Args: []api.Arg{val(num(1))}}),
		"a negative number":        of(api.Stmt{Kind: api.SPrint, X: num(-1)}),
		"a second name as well":    of(call("f", ref("x"), ref("x")), api.Stmt{Kind: api.SPrint, X: num(-1)}),
		"a fault of names as well": {Globals: []string{"a", "a"}, Procs: []api.Proc{main, {Name: "f", Body: []api.Stmt{{Id: 2, Kind: api.SCall, Proc: "f", Args: []api.Arg{ref("z"), ref("z")}}}}}},
	} {
		holdNothing(t, p, what)
		if tree.May(p) {
			t.Errorf("P3.1: a program is well-formed, %s", what)
		}
	}
}

func TestTreesThatAreTooDeep(t *testing.T) {
	of := func(stmts ...api.Stmt) api.Program {
		return api.Program{Procs: []api.Proc{{Name: "main", Vars: []string{"x", "y"}, Body: stmts}, {Name: "k", Params: []api.Param{{Name: "a", Ref: true}, {Name: "b"}}}, {Name: "d"}}}
	}
	x := name("x")
	for range 19 {
		x = one(api.XNeg, x)
	}
	holdCheck(t, tree.Number(of(call("k", ref("x"), val(x)))), api.Fault{})
	s := call("k", ref("x"), val(x))
	s.Name = "x"
	holdCheck(t, tree.Number(of(s)), wrong(1))
	holdNothing(t, tree.Number(of(call("k", ref("x"), val(one(api.XNeg, x))))), "an expression too deep")
	for range 300000 {
		x = one(api.XNot, x)
	}
	holdDeep(t, of(api.Stmt{Id: 1, Kind: api.SCall, Proc: "k", Args: []api.Arg{ref("x"), val(x)}}), "an expression much too deep")
	s = call("d")
	for range 12 {
		s = api.Stmt{Kind: api.SIf, X: num(1), Else: []api.Stmt{s}}
	}
	holdNothing(t, tree.Number(of(s)), "statements too deep")
	block := []api.Stmt{{Id: 1, Kind: api.SIf, X: num(1)}}
	for range 300000 {
		block = []api.Stmt{{Id: 1, Kind: api.SIf, X: num(1), Then: block}}
	}
	holdDeep(t, of(block...), "statements much too deep")
	holdDeep(t, of(slices.Repeat([]api.Stmt{{Id: 1, Kind: api.SCall, Proc: "d"}}, 300000)...), "many statements")
	block = []api.Stmt{{Id: 1, Kind: api.SWhile, X: name("x")}}
	block[0].Then = block
	holdDeep(t, of(block...), "statements that contain themselves")
}

// holdDeep asks no statement of the program, which is too deep for that.
func holdDeep(t *testing.T, p api.Program, what string) {
	t.Helper()
	if tree.May(p) {
		t.Errorf("P3.1: a program is well-formed, %s", what)
	}
	holdNothing(t, p, what)
	holdFit(t, p, p.Procs[0].Body[0], false, what)
}

// A program with one field changed is asked exactly if its calls still are right.
func TestEachFieldChanged(t *testing.T) {
	right, seconds, bad := 0, 0, 0
	hold := func(p api.Program, path string) {
		if arity.Check(p) != (api.Fault{}) {
			bad++
			holdNothing(t, p, "changed at "+path)
			return
		}
		if wantedFault(t, p) == (api.Fault{}) {
			right++
		} else {
			seconds++
		}
		holdAll(t, p)
	}
	p := ordinary()
	within(&p, func(path string, v reflect.Value) {
		was := reflect.New(v.Type()).Elem()
		was.Set(v)
		switch v.Kind() {
		case reflect.String:
			for _, s := range []string{"", "a", "b", "c", "d", "f", "g", "h", "i", "k", "l", "r", "v", "x", "y", "main", "abcdefgh", "abcdefghi", "while", "Z"} {
				v.SetString(s)
				hold(p, path)
			}
		case reflect.Int, reflect.Int64:
			for _, n := range []int64{math.MinInt64, -1, 0, 1, 2, 3, 4, 8, 11, 17, math.MaxInt64} {
				v.SetInt(n)
				hold(p, path)
			}
		case reflect.Bool:
			v.SetBool(!v.Bool())
			hold(p, path)
		case reflect.Slice:
			v.SetZero()
			hold(p, path)
			v.Set(reflect.MakeSlice(v.Type(), 1, 1))
			hold(p, path)
			if was.Len() > 0 {
				v.Set(was.Slice(0, was.Len()-1))
				hold(p, path)
				v.Set(reflect.AppendSlice(was.Slice3(0, was.Len(), was.Len()), was))
				hold(p, path)
			}
		}
		v.Set(was)
	})
	if right < 200 || seconds < 20 || bad < 1000 {
		t.Errorf("%d changed programs are right, %d give a second name, %d have another fault", right, seconds, bad)
	}
}

func TestCheckLeavesAllAsItIs(t *testing.T) {
	p := roomy(ordinary())
	before := snapshot(p)
	holdCheck(t, p, api.Fault{})
	p.Procs[3].Body[0].Name, before.Procs[3].Body[0].Name = "i", "i"
	holdCheck(t, p, wrong(9))
	p.Procs[0].Body[1].Else[1].Name, before.Procs[0].Body[1].Else[1].Name = "x", "x"
	holdCheck(t, p, wrong(9))
	p.Globals[1], before.Globals[1] = "g", "g"
	holdCheck(t, p, api.Fault{Code: api.ErrForm})
	if !reflect.DeepEqual(snapshot(p), before) {
		t.Errorf("P0.3: Check changes what it is given")
	}
}

func TestCheckTakesNilAndEmptyAlike(t *testing.T) {
	for _, asNil := range []bool{true, false} {
		holdCheck(t, empties(ordinary(), asNil), api.Fault{})
		p := ordinary()
		p.Procs[0].Body[2].Name = "h"
		holdCheck(t, empties(p, asNil), wrong(10))
		holdCheck(t, empties(api.Program{}, asNil), api.Fault{Code: api.ErrForm})
	}
}

// A call is answered alike however often it is made, and whatever was asked ahead of it.
func TestAnswersHangOnArgumentsAlone(t *testing.T) {
	texts := []string{holes, "", "global g; proc main() { f(ref g); } proc f(ref a) { }", "global g; proc main() { f(ref g); } proc f(ref a) { g = 1; }", "global g; proc main() { f(ref x); } proc f(ref a) { g = 1; }", "global g; proc main() { print 1; g = f(ref g); } proc f(ref f) { }"}
	tell := func(text string) string {
		p := read(t, text)
		return fmt.Sprint(Check(p), Fits(p, call("f", ref("g"))), Fits(p, call("f", ref("x"))))
	}
	var first []string
	for _, text := range texts {
		first = append(first, tell(text))
	}
	for range 3 {
		for i := len(texts) - 1; i >= 0; i-- {
			if got := tell(texts[i]); got != first[i] {
				t.Errorf("P0.5: of %q is told %s and then %s", texts[i], first[i], got)
			}
		}
	}
}
