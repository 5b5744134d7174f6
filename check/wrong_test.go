package check

import (
	"fmt"
	"math"
	"reflect"
	"slices"
	"strings"
	"testing"

	"whittler/api"
	"whittler/tree"
)

func TestProgramsThatAreNotWellFormed(t *testing.T) {
	main, stop := api.Proc{Name: "main", Vars: []string{"x"}}, api.Stmt{Kind: api.SReturn}
	rest := []api.Proc{{Name: "f", Params: []api.Param{{Name: "a", Ref: true}, {Name: "b"}}}, {Name: "d"}}
	of := func(stmts ...api.Stmt) api.Program {
		return tree.Number(api.Program{Globals: []string{"g"}, Procs: append([]api.Proc{{Name: "main", Vars: []string{"x", "y"}, Body: append([]api.Stmt{call("f", ref("x"), val(name("x")))}, stmts...)}}, rest...)})
	}
	with := func(procs ...api.Proc) api.Program { return api.Program{Globals: []string{"g"}, Procs: procs} }
	holdAll(t, of(), api.Fault{})
	holdAll(t, with(append(slices.Clone(rest), main)...), api.Fault{})
	for what, p := range map[string]api.Program{
		"a bad global":           {Globals: []string{"g", "A"}, Procs: append([]api.Proc{main}, rest...)},
		"a global without bytes": {Globals: []string{""}, Procs: []api.Proc{main}},
		"17 globals":             {Globals: strings.Fields("a1 b1 c d e f g h i j k l m n o p q"), Procs: append([]api.Proc{main}, rest...)},
		"17 procedures":          with(append(slices.Repeat([]api.Proc{{Name: "d"}}, 16), main)...),
		"9 parameters":           with(main, api.Proc{Name: "f", Params: slices.Repeat([]api.Param{{Name: "a", Ref: true}}, 9)}),
		"17 variables":           with(api.Proc{Name: "main", Vars: strings.Fields("a b c d e f h i j k l m n o p q r")}),
		"a bad procedure":        with(main, api.Proc{Name: ""}),
		"a bad parameter":        with(main, api.Proc{Name: "p", Params: []api.Param{{Name: "a"}, {Name: "if"}}}),
		"a bad variable":         with(api.Proc{Name: "main", Vars: []string{"abcdefghi"}}),
		"a bad label at an end":  with(api.Proc{Name: "main", End: []string{"1"}}),
		"a bad label":            of(api.Stmt{Kind: api.SReturn, Labels: []string{"ref"}}),
		"a bad jump":             of(api.Stmt{Kind: api.SGoto, Name: "L"}),
		"no kind":                of(api.Stmt{}),
		"a kind below none":      of(api.Stmt{Kind: -1}),
		"a kind too great":       of(stop, api.Stmt{Kind: 11}),
		"no id":                  with(api.Proc{Name: "main", Body: []api.Stmt{call("d")}}, rest[1]),
		"an id too great":        with(main, api.Proc{Name: "d", Body: []api.Stmt{{Id: 2, Kind: api.SReturn}}}),
		"an id that is twice":    with(api.Proc{Name: "main", Body: []api.Stmt{{Id: 1, Kind: api.SReturn}}}, api.Proc{Name: "d", Body: []api.Stmt{{Id: 1, Kind: api.SReturn}}}),
		"201 statements":         of(slices.Repeat([]api.Stmt{stop}, 200)...),
		"a call without Proc":    of(api.Stmt{Kind: api.SCall}),
		"a call with a Then":     of(api.Stmt{Kind: api.SCall, Proc: "d", Then: []api.Stmt{stop}}),
		"an argument of nothing": of(call("f", api.Arg{}, val(num(1)))),
		"an argument of both":    of(call("f", api.Arg{Ref: true, Name: "x", X: num(1)}, val(num(1)))),
		"a break with a name":    of(api.Stmt{Kind: api.SWhile, X: num(1), Then: []api.Stmt{{Kind: api.SBreak, Name: "x"}}}),
		"a return of what not":   of(api.Stmt{Kind: api.SReturn, X: num(1)}),
		"a return of nothing":    of(api.Stmt{Kind: api.SReturn, Has: true}),
		"a negative number":      of(api.Stmt{Kind: api.SPrint, X: num(-1)}),
		"a name as well":         of(api.Stmt{Kind: api.SPrint, X: name("none")}, api.Stmt{Kind: api.SPrint, X: num(-1)}),
		"a call as well":         of(call("f"), api.Stmt{Kind: api.SPrint, X: num(-1)}),
		"a jump as well":         of(api.Stmt{Kind: api.SBreak}, api.Stmt{Kind: api.SPrint, X: num(-1)}),
		"a second name as well":  of(api.Stmt{Kind: api.SCall, Name: "x", Proc: "f", Args: []api.Arg{ref("x"), val(num(-1))}}),
	} {
		if tree.May(p) {
			t.Errorf("P3.1: a program is well-formed, %s", what)
		}
		holdAll(t, p, fault(api.ErrForm, 0))
	}
	for _, p := range []api.Program{{}, {Globals: []string{}, Procs: []api.Proc{}}, {Globals: []string{"main"}}, with(rest...)} {
		holdAll(t, p, fault(api.ErrName, 0))
	}
}

func TestTreesThatAreTooDeep(t *testing.T) {
	of := func(stmts ...api.Stmt) api.Program {
		return api.Program{Procs: []api.Proc{{Name: "main", Vars: []string{"x"}, Body: stmts}}}
	}
	x := name("x")
	for range 19 {
		x = one(api.XNeg, x)
	}
	holdAll(t, of(api.Stmt{Id: 1, Kind: api.SPrint, X: x}), api.Fault{})
	holdAll(t, of(api.Stmt{Id: 1, Kind: api.SPrint, X: one(api.XNeg, x)}), fault(api.ErrForm, 0))
	for range 300000 {
		x = one(api.XNot, x)
	}
	holdAll(t, of(api.Stmt{Id: 1, Kind: api.SPrint, X: x}), fault(api.ErrForm, 0))
	s := api.Stmt{Kind: api.SBreak}
	for range 11 {
		s = api.Stmt{Kind: api.SWhile, X: num(1), Then: []api.Stmt{s}}
	}
	holdAll(t, tree.Number(of(s)), api.Fault{})
	holdAll(t, tree.Number(of(api.Stmt{Kind: api.SIf, X: num(1), Else: []api.Stmt{s}})), fault(api.ErrForm, 0))
	block := []api.Stmt{{Id: 1, Kind: api.SIf, X: num(1)}}
	for range 300000 {
		block = []api.Stmt{{Id: 1, Kind: api.SIf, X: num(1), Then: block}}
	}
	holdAll(t, of(block...), fault(api.ErrForm, 0))
	holdAll(t, of(slices.Repeat([]api.Stmt{{Id: 1, Kind: api.SReturn}}, 300000)...), fault(api.ErrForm, 0))
	block = []api.Stmt{{Id: 1, Kind: api.SWhile, X: name("x")}}
	block[0].Then = block
	holdAll(t, of(block...), fault(api.ErrForm, 0))
	kids := []api.Expr{{Op: api.XNot}}
	kids[0].Kids = kids
	holdAll(t, of(api.Stmt{Id: 1, Kind: api.SPrint, X: kids[0]}), fault(api.ErrForm, 0))
}

// Lists that no limit holds may be long: labels and arguments.
func TestLongLists(t *testing.T) {
	labels := make([]string, 20000)
	for i := range labels {
		labels[i] = "l" + strings.ToLower(fmt.Sprintf("%x", i))
	}
	s := api.Stmt{Id: 1, Kind: api.SReturn, Labels: labels}
	p := api.Program{Procs: []api.Proc{{Name: "main", Body: []api.Stmt{s}}}}
	holdAll(t, p, api.Fault{})
	p.Procs[0].End = labels[19999:]
	holdAll(t, p, fault(api.ErrLabel, 0))
	s = call("main", slices.Repeat([]api.Arg{ref("x")}, 20000)...)
	p = tree.Number(api.Program{Procs: []api.Proc{{Name: "main", Vars: []string{"x"}, Body: []api.Stmt{s}}, {Name: "f"}}})
	holdAll(t, p, fault(api.ErrName, 1))
	p.Procs[0].Body[0].Proc = "f"
	holdAll(t, p, fault(api.ErrArity, 1))
}

// A program with one field changed has the first fault that any check tells.
func TestEachFieldChanged(t *testing.T) {
	count := map[api.Errno]int{}
	hold := func(p api.Program, path string) {
		want := lowest(p)
		count[want.Code]++
		holdAll(t, p, want)
	}
	p := ordinary()
	within(&p, func(path string, v reflect.Value) {
		was := reflect.New(v.Type()).Elem()
		was.Set(v)
		switch v.Kind() {
		case reflect.String:
			for _, s := range []string{"", "a", "b", "c", "d", "e", "f", "g", "h", "i", "k", "l", "o", "r", "v", "x", "y", "main", "abcdefgh", "abcdefghi", "while", "Z"} {
				v.SetString(s)
				hold(p, path)
			}
		case reflect.Int, reflect.Int64:
			for _, n := range []int64{math.MinInt64, -1, 0, 1, 2, 3, 4, 7, 8, 11, 17, 18, math.MaxInt64} {
				v.SetInt(n)
				hold(p, path)
			}
		case reflect.Bool:
			v.SetBool(!v.Bool())
			hold(p, path)
		case reflect.Slice:
			v.SetZero()
			hold(p, path)
			v.Set(reflect.MakeSlice(v.Type(), 1, 1))
			hold(p, path)
			if was.Len() > 0 {
				v.Set(was.Slice(0, was.Len()-1))
				hold(p, path)
				v.Set(reflect.AppendSlice(was.Slice3(0, was.Len(), was.Len()), was))
				hold(p, path)
			}
		}
		v.Set(was)
	})
	for code, least := range map[api.Errno]int{api.OK: 300, api.ErrForm: 300, api.ErrName: 300, api.ErrArity: 10, api.ErrLabel: 50, api.ErrAlias: 20} {
		if count[code] < least {
			t.Errorf("%d changed programs have the fault %d", count[code], code)
		}
	}
}

func TestAllIsLeftAsItIs(t *testing.T) {
	p := roomy(ordinary())
	hold := func(want api.Fault) {
		t.Helper()
		before := snapshot(p)
		holdAll(t, p, want)
		if !reflect.DeepEqual(snapshot(p), before) {
			t.Errorf("P0.3: All or May changes what it is given")
		}
	}
	hold(api.Fault{})
	p.Procs[3].Body[0].Name = "i"
	hold(fault(api.ErrAlias, 9))
	p.Procs[2].End[0] = "e2"
	p.Procs[1].Body[4].Name = "e"
	hold(fault(api.ErrLabel, 15))
	p.Procs[1].Params[1].Ref = true
	hold(fault(api.ErrArity, 9))
	p.Globals[1] = "g"
	hold(fault(api.ErrName, 0))
	p.Procs[0].Body[0].Id = 7
	hold(fault(api.ErrForm, 0))
}

func TestNilAndEmptyAlike(t *testing.T) {
	for _, asNil := range []bool{true, false} {
		holdAll(t, empties(ordinary(), asNil), api.Fault{})
		p := ordinary()
		p.Procs[0].Body[2].Name = "h"
		holdAll(t, empties(p, asNil), fault(api.ErrAlias, 10))
		p.Procs[0].Body[2].Proc = "d"
		holdAll(t, empties(p, asNil), fault(api.ErrArity, 10))
		holdAll(t, empties(api.Program{}, asNil), fault(api.ErrName, 0))
	}
}

// A call is answered alike however often it is made, and whatever was asked ahead of it.
func TestAnswersHangOnArgumentsAlone(t *testing.T) {
	texts := []string{"", "proc main() { }", "proc main() { print x; }", "proc main() { f(1); } proc f() { }", "proc main() { f(1); } proc f(a) { }", "proc main() { break; }", "global g; proc main() { f(ref g); } proc f(ref a) { print g; }", "global g; proc main() { f(ref g); } proc f(ref a) { }", "proc main() { ? }"}
	tell := func(text string) string {
		p, fault := Text(text)
		return fmt.Sprint(p, fault, All(p), May(p))
	}
	var first []string
	for _, text := range texts {
		first = append(first, tell(text))
	}
	for range 3 {
		for i := len(texts) - 1; i >= 0; i-- {
			if got := tell(texts[i]); got != first[i] {
				t.Errorf("P0.5: of %q is told %s and then %s", texts[i], first[i], got)
			}
		}
	}
}
