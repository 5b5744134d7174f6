package touch

import (
	"math"
	"reflect"
	"slices"
	"strings"
	"testing"

	"whittler/api"
	"whittler/scope"
	"whittler/tree"
)

// Of programs for which scope.Check tells a fault nothing is told, wherever the fault is.
func TestProgramsWithFaultsOfNames(t *testing.T) {
	for _, text := range []string{
		"", "global g;", "global main;", "global g; proc f() { g = 1; f(); }", "global g; proc k() { k(); } proc f(a) { f(a + g); }", "global g; proc main(a) { k(); g = a; } proc k() { }", "global g; proc main(ref a) { f(ref g); } proc f(ref r) { }",
		"global g, g; proc main() { k(); g = 1; } proc k() { }", "proc main() { k(); } proc main() { k(); } proc k() { }", "global g; proc main() { k(); } proc k() { g = 1; } proc k() { }", "global g; proc main() { print g; } proc f() { f(); } proc p() { } proc f() { }",
		"global g; proc main() { var x, x; k(); } proc k() { g = 1; }", "global g; proc main() { k(); } proc k() { } proc f(g) { k(); }", "global g; proc main() { var g; g = 1; k(); } proc k() { }", "global g; proc main() { k(); } proc k() { var g; print g; }",
		"proc main() { f(1, 2); } proc f(a, a) { k(); } proc k() { }", "proc main() { f(1); } proc f(a) { var a; f(a); }",
		"global g; proc main() { k(); print x; } proc k() { g = 1; }", "global g; proc main() { x = g; k(); } proc k() { }", "global g; proc main() { while (1) { read x; k(); } } proc k() { g = g; }", "global g; proc main() { while (x) { k(); g = 2; } } proc k() { }",
		"global g; proc main() { f(x); f(g); } proc f(a) { }", "global g; proc main() { f(ref x); f(ref g); } proc f(ref a) { }", "global g; proc main() { x = f(g); } proc f(a) { f(a); }",
		"global g; proc main() { none(); k(); } proc k() { g = 1; }", "global g; proc main() { k(); } proc k() { while (2) { none(g); } }", "proc main() { var k; k(); f(); } proc f() { f(); }", "global g; proc main() { g = 1; while (1) { main(); } }", "global g; proc main() { k(); g = 1; } proc k() { while (1) { main(); } }",
		// The fault is in a procedure that is not reached.
		"global g; proc main() { g = 1; k(); } proc k() { k(); } proc f() { print x; }", "global g; proc main() { g = 1; k(); } proc k() { } proc f() { x(); }", "global g; proc main() { g = 1; k(); } proc k() { } proc f() { k(); } proc p(a, a) { }", "global g; proc main() { g = 1; k(); } proc k() { } proc p() { main(); }",
	} {
		holdNothing(t, read(t, text), text)
	}
	holdNothing(t, api.Program{}, "empty")
	holdNothing(t, api.Program{Globals: []string{}, Procs: []api.Proc{}}, "empty slices")
}

func TestProgramsThatAreNotWellFormed(t *testing.T) {
	stop := api.Stmt{Kind: api.SReturn}
	call := api.Stmt{Kind: api.SCall, Proc: "k"}
	main := api.Proc{Name: "main", Body: []api.Stmt{{Id: 1, Kind: api.SCall, Proc: "k"}, {Id: 2, Kind: api.SRead, Name: "g"}}}
	k := api.Proc{Name: "k", Body: []api.Stmt{{Id: 3, Kind: api.SCall, Proc: "k"}}}
	of := func(stmts ...api.Stmt) api.Program {
		return tree.Number(api.Program{Globals: []string{"g"}, Procs: []api.Proc{{Name: "main", Body: append([]api.Stmt{call, {Kind: api.SRead, Name: "g"}}, stmts...)}, k, {Name: "f"}}})
	}
	with := func(procs ...api.Proc) api.Program { return api.Program{Globals: []string{"g"}, Procs: procs} }
	if got := scope.Check(of()); got != (api.Fault{}) {
		t.Errorf("P6.2: a right program has the fault %v", got)
	}
	for what, p := range map[string]api.Program{
		"a bad global":             {Globals: []string{"g", "A"}, Procs: []api.Proc{main, k}},
		"17 globals":               {Globals: strings.Fields("a b c d e f g h i j k l m n o p q"), Procs: []api.Proc{main, k}},
		"17 procedures":            with(append(slices.Repeat([]api.Proc{{Name: "f"}}, 15), main, k)...),
		"9 parameters":             with(main, k, api.Proc{Name: "f", Params: slices.Repeat([]api.Param{{Name: "a"}}, 9)}),
		"17 variables":             with(main, k, api.Proc{Name: "f", Vars: strings.Fields("a b c d e f h i j k l m n o p q r")}),
		"a bad procedure":          with(main, k, api.Proc{Name: ""}),
		"a bad parameter":          with(main, k, api.Proc{Name: "p", Params: []api.Param{{Name: "a"}, {Name: "if"}}}),
		"a bad variable":           with(main, k, api.Proc{Name: "f", Vars: []string{"abcdefghi"}}),
		"a bad label at an end":    with(main, k, api.Proc{Name: "f", End: []string{"e", "1"}}),
		"a bad label":              of(api.Stmt{Kind: api.SBreak, Labels: []string{"e", "ref"}}),
		"a bad jump":               of(api.Stmt{Kind: api.SGoto, Name: "L"}),
		"a jump to nothing":        of(api.Stmt{Kind: api.SGoto}),
		"a jump with a call":       of(api.Stmt{Kind: api.SGoto, Name: "l", Proc: "k"}),
		"a break with a name":      of(api.Stmt{Kind: api.SBreak, Name: "g"}),
		"a print with a name":      of(api.Stmt{Kind: api.SPrint, Name: "g", X: num(1)}),
		"a print with arguments":   of(api.Stmt{Kind: api.SPrint, X: num(1), Args: []api.Arg{{Ref: true, Name: "g"}}}),
		"a read with an X":         of(api.Stmt{Kind: api.SRead, Name: "g", X: name("g")}),
		"a call with an X":         of(api.Stmt{Kind: api.SCall, Proc: "k", X: name("g")}),
		"a call with a Then":       of(api.Stmt{Kind: api.SCall, Proc: "k", Then: []api.Stmt{call}}),
		"a call of nothing":        of(api.Stmt{Kind: api.SCall}),
		"an argument of nothing":   of(api.Stmt{Kind: api.SCall, Proc: "k", Args: []api.Arg{{}}}),
		"an argument of both":      of(api.Stmt{Kind: api.SCall, Proc: "k", Args: []api.Arg{{Ref: true, Name: "g", X: num(1)}}}),
		"a loop with an Else":      of(api.Stmt{Kind: api.SWhile, X: num(1), Else: []api.Stmt{call}}),
		"a return of nothing":      of(api.Stmt{Kind: api.SReturn, Has: true}),
		"no kind":                  of(api.Stmt{}),
		"a kind too great":         of(stop, api.Stmt{Kind: 11, Proc: "k", Name: "g"}),
		"no id":                    with(api.Proc{Name: "main", Body: []api.Stmt{call}}, api.Proc{Name: "k"}),
		"an id too great":          with(main, api.Proc{Name: "k", Body: []api.Stmt{{Id: 4, Kind: api.SReturn}}}),
		"an id that is twice":      with(main, api.Proc{Name: "k", Body: []api.Stmt{{Id: 2, Kind: api.SReturn}}}),
		"201 statements":           of(slices.Repeat([]api.Stmt{call}, 198)...),
		"a bad expression":         of(api.Stmt{Kind: api.SPrint, X: two(api.XAdd, num(1), num(-1))}),
		"a fault of names as well": {Globals: []string{"g", "g"}, Procs: []api.Proc{{Name: "f", Body: []api.Stmt{{Id: 2, Kind: api.SRead, Name: "z"}}}}},
		"a bad last procedure":     with(main, api.Proc{Name: "f", Body: []api.Stmt{{Id: 3, Kind: api.SBreak}}}, api.Proc{Name: "Q"}),
	} {
		holdNothing(t, p, what)
		if tree.May(p) {
			t.Errorf("P3.1: a program is well-formed, %s", what)
		}
	}
}

func TestTreesThatAreTooDeep(t *testing.T) {
	of := func(stmts ...api.Stmt) api.Program {
		return api.Program{Globals: []string{"g"}, Procs: []api.Proc{{Name: "main", Body: stmts}, {Name: "k"}}}
	}
	s := api.Stmt{Kind: api.SCall, Proc: "k"}
	for range 12 {
		s = api.Stmt{Kind: api.SWhile, X: name("g"), Then: []api.Stmt{s}}
	}
	holdNothing(t, tree.Number(of(s)), "statements too deep")
	hold(t, tree.Number(of(s.Then...)), "main", "k", "k main", "g")
	x := name("g")
	for range 19 {
		x = one(api.XNot, x)
	}
	hold(t, tree.Number(of(api.Stmt{Kind: api.SPrint, X: x})), "main", "", "main", "g")
	holdNothing(t, tree.Number(of(api.Stmt{Kind: api.SPrint, X: one(api.XNeg, x)})), "an expression too deep")
	for range 300000 {
		x = one(api.XNot, x)
	}
	holdNothing(t, tree.Number(of(api.Stmt{Kind: api.SPrint, X: x})), "an expression much too deep")
	holdNothing(t, tree.Number(of(api.Stmt{Kind: api.SCall, Proc: "k", Args: []api.Arg{{X: x}}})), "an argument much too deep")
	block := []api.Stmt{{Id: 1, Kind: api.SWhile, X: num(1)}}
	for range 300000 {
		block = []api.Stmt{{Id: 1, Kind: api.SIf, X: num(1), Else: block}}
	}
	holdNothing(t, of(block...), "statements much too deep")
	holdNothing(t, of(slices.Repeat([]api.Stmt{{Id: 1, Kind: api.SCall, Proc: "k"}}, 300000)...), "many statements")
	block = []api.Stmt{{Id: 1, Kind: api.SWhile, X: name("g")}}
	block[0].Then = block
	holdNothing(t, of(block...), "statements that contain themselves")
}

// A program with one field changed is asked exactly if its names still are right.
func TestEachFieldChanged(t *testing.T) {
	right, bad := 0, 0
	asked := func(p api.Program, path string) {
		if scope.Check(p) != (api.Fault{}) {
			bad++
			holdNothing(t, p, "changed at "+path)
			return
		}
		right++
		holdAll(t, p)
	}
	p := ordinary()
	within(&p, func(path string, v reflect.Value) {
		was := reflect.New(v.Type()).Elem()
		was.Set(v)
		switch v.Kind() {
		case reflect.String:
			for _, s := range []string{"", "a", "b", "f", "k", "l", "o", "g", "h", "z", "x", "y", "v", "main", "abcdefgh", "abcdefghi", "while", "Z"} {
				v.SetString(s)
				asked(p, path)
			}
		case reflect.Int, reflect.Int64:
			for _, n := range []int64{math.MinInt64, -1, 0, 1, 2, 3, 4, 7, 8, 10, 11, 17, math.MaxInt64} {
				v.SetInt(n)
				asked(p, path)
			}
		case reflect.Bool:
			v.SetBool(!v.Bool())
			asked(p, path)
		case reflect.Slice:
			v.SetZero()
			asked(p, path)
			v.Set(reflect.MakeSlice(v.Type(), 1, 1))
			asked(p, path)
			if was.Len() > 0 {
				v.Set(was.Slice(0, was.Len()-1))
				asked(p, path)
				v.Set(reflect.AppendSlice(was.Slice3(0, was.Len(), was.Len()), was))
				asked(p, path)
			}
		}
		v.Set(was)
	})
	if right < 200 || bad < 700 {
		t.Errorf("%d changed programs are right, %d are not", right, bad)
	}
}

func TestAllIsLeftAsItIs(t *testing.T) {
	p := roomy(ordinary())
	before := snapshot(p)
	for range 2 {
		hold(t, p, "main", "f k", "b f k main", "g h i j z")
		hold(t, p, "none", "", "", "")
	}
	p.Procs[0].Body[1].Else[1].Proc = "b"
	before.Procs[0].Body[1].Else[1].Proc = "b"
	hold(t, p, "main", "b k", "b k main", "g h i z")
	p.Globals[0] = "g"
	before.Globals[0] = "g"
	holdNothing(t, p, "two globals of one name")
	if !reflect.DeepEqual(snapshot(p), before) {
		t.Errorf("P0.3: what is given is changed")
	}
}

// Modifying what is answered affects nothing else.
func TestAnswersAreNew(t *testing.T) {
	p := roomy(ordinary())
	part(&p)
	before := snapshot(p)
	var answers [][]string
	all := spans(p)
	for range 2 {
		for _, proc := range []string{"main", "f", "k"} {
			for _, ask := range []func(api.Program, string) []string{Calls, All, Globals} {
				asked := strings.Clone(proc)
				got := ask(p, asked)
				answers = append(answers, got)
				all = append(all, append(spans(got), spans(asked)...)...)
			}
		}
	}
	holdApart(t, all)
	for _, got := range answers {
		for i := range got[:cap(got)] {
			got[:cap(got)][i] = "spoilt"
		}
	}
	if !reflect.DeepEqual(snapshot(p), before) {
		t.Errorf("P0.3: an answer that is changed changes the program")
	}
	hold(t, p, "main", "f k", "b f k main", "g h i j z")
}

// A nil slice is as good as an empty one.
func TestEmptySlices(t *testing.T) {
	for _, asNil := range []bool{false, true} {
		p := empties(ordinary(), asNil)
		hold(t, p, "main", "f k", "b f k main", "g h i j z")
		hold(t, p, "f", "b", "b f", "j")
		hold(t, p, "k", "", "k", "")
		holdNothing(t, empties(api.Program{}, asNil), "empty")
		p = empties(api.Program{Procs: []api.Proc{{Name: "main"}}}, asNil)
		hold(t, p, "main", "", "main", "")
	}
}
