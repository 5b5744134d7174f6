package tree

import (
	"math"
	"reflect"
	"slices"
	"strings"
	"testing"

	"whittler/api"
)

func holdExpr(t *testing.T, x api.Expr, want bool, what string) {
	t.Helper()
	if got := MayExpr(x); got != want {
		t.Errorf("P3.1: MayExpr of %s = %t", what, got)
	}
}

func holdMay(t *testing.T, p api.Program, want bool, what string) {
	t.Helper()
	if got := May(p); got != want {
		t.Errorf("P3.1: May of %s = %t", what, got)
	}
}

func TestEveryHeadOfAnExpression(t *testing.T) {
	bad, kid := num(-1), name("k")
	rows := []struct {
		kids []api.Expr
		good bool
	}{{nil, true}, {[]api.Expr{}, true}, {[]api.Expr{kid}, true}, {[]api.Expr{kid, num(4)}, true}, {[]api.Expr{kid, kid, kid}, true}, {[]api.Expr{bad}, false}, {[]api.Expr{bad, kid}, false}, {[]api.Expr{kid, bad}, false}, {[]api.Expr{kid, {}}, false}}
	for op := -2; op <= 20; op++ {
		for _, n := range []int64{math.MinInt64, -1, 0, 1, math.MaxInt64} {
			for _, s := range []string{"", "a", "abcdefgh", "abcdefghi", "if", "A"} {
				for _, row := range rows {
					x := api.Expr{Op: op, N: n, Name: s, Kids: row.kids}
					if got, want := MayExpr(x), row.good && fits(x); got != want {
						t.Errorf("P3.1: MayExpr(%v) = %t", x, got)
					}
				}
			}
		}
	}
}

// fits says what the chapter asks of an expression's own fields and of the number of its kids.
func fits(x api.Expr) bool {
	kids := len(x.Kids)
	switch x.Op {
	case 1:
		return x.N >= 0 && x.Name == "" && kids == 0
	case 2:
		return x.N == 0 && (x.Name == "a" || x.Name == "abcdefgh") && kids == 0
	case 3, 4:
		return x.N == 0 && x.Name == "" && kids == 1
	case 5, 6, 7, 8, 9, 10, 11, 12, 13, 14, 15, 16, 17:
		return x.N == 0 && x.Name == "" && kids == 2
	}
	return false
}

func TestFarOperators(t *testing.T) {
	for _, op := range []int{0, -1, 18, math.MinInt, math.MaxInt, 1 << 32, 1<<32 + 1, 1<<32 + 2, 1<<32 + 5} {
		holdExpr(t, api.Expr{Op: op}, false, "an operator that is none")
		holdExpr(t, api.Expr{Op: op, Name: "a"}, false, "an operator that is none")
		holdExpr(t, one(op, num(1)), false, "an operator that is none")
		holdExpr(t, two(op, num(1), num(2)), false, "an operator that is none")
	}
}

func TestNamesInExpressions(t *testing.T) {
	for _, s := range goodNames {
		holdExpr(t, name(s), true, s)
		holdExpr(t, two(api.XAnd, num(0), one(api.XNot, name(s))), true, s)
	}
	for _, s := range badNames {
		holdExpr(t, name(s), false, "a name that is none")
		holdExpr(t, two(api.XAnd, num(0), one(api.XNot, name(s))), false, "a name that is none")
	}
}

// chain answers an expression of a depth, whose long side goes by kid 0, by kid 1, or through operators of one kid.
func chain(depth, side int) api.Expr {
	x := name("a")
	for ; depth > 1; depth-- {
		switch side {
		case 0:
			x = two(api.XMul, x, num(1))
		case 1:
			x = two(api.XOr, num(1), x)
		default:
			x = one(api.XNeg, x)
		}
	}
	return x
}

func TestDepthOfExpressions(t *testing.T) {
	for side := range 3 {
		for depth := 1; depth <= 40; depth++ {
			holdExpr(t, chain(depth, side), depth <= 20, "a chain")
			holdExpr(t, two(api.XSub, chain(depth, side), num(0)), depth <= 19, "a chain on the left")
			holdExpr(t, two(api.XSub, num(0), chain(depth, side)), depth <= 19, "a chain on the right")
			p := api.Program{Procs: []api.Proc{{Name: "main", Body: []api.Stmt{{Id: 1, Kind: api.SPrint, X: chain(depth, side)}}}}}
			holdMay(t, p, depth <= 20, "a program with a chain")
			p.Procs[0].Body[0] = api.Stmt{Id: 1, Kind: api.SCall, Proc: "f", Args: []api.Arg{{X: num(1)}, {X: chain(depth, side)}}}
			holdMay(t, p, depth <= 20, "a call with a chain")
		}
		holdExpr(t, chain(200000, side), false, "a very long chain")
	}
}

func TestExpressionsThatContainThemselves(t *testing.T) {
	for _, kids := range []int{1, 2} {
		for at := range kids {
			loop := slices.Repeat([]api.Expr{num(1)}, kids)
			loop[at] = api.Expr{Op: 2 + 2*kids, Kids: loop}
			x := loop[at]
			holdExpr(t, x, false, "what contains itself")
			if got := Names(x); len(got) != 0 {
				t.Errorf("P3.2: Names of what contains itself = %v", got)
			}
			holdMay(t, api.Program{Procs: []api.Proc{{Name: "main", Body: []api.Stmt{{Id: 1, Kind: api.SPrint, X: x}}}}}, false, "an X that contains itself")
			holdMay(t, api.Program{Procs: []api.Proc{{Name: "main", Body: []api.Stmt{{Id: 1, Kind: api.SCall, Proc: "f", Args: []api.Arg{{X: x}}}}}}}, false, "an argument that contains itself")
		}
	}
	both := make([]api.Expr, 2)
	both[0], both[1] = api.Expr{Op: api.XAdd, Kids: both}, api.Expr{Op: api.XAdd, Kids: both}
	holdExpr(t, both[0], false, "what contains itself twice")
}

func TestBlocksThatContainThemselves(t *testing.T) {
	then := []api.Stmt{{Id: 1, Kind: api.SWhile, X: num(1)}}
	then[0].Then = then
	holdMay(t, api.Program{Procs: []api.Proc{{Name: "main", Body: then}}}, false, "a Then that contains itself")
	both := slices.Repeat([]api.Stmt{{Id: 1, Kind: api.SIf, X: num(1)}}, 3)
	for i := range both {
		both[i].Then, both[i].Else = both, both
	}
	holdMay(t, api.Program{Procs: []api.Proc{{Name: "main", Body: both}}}, false, "a Then and an Else that contain themselves")
}

func TestWellFormedPrograms(t *testing.T) {
	holdMay(t, api.Program{}, true, "an empty program")
	holdMay(t, ordinary(), true, "an ordinary program")
	holdMay(t, empties(ordinary(), true), true, "a program with nil slices")
	holdMay(t, empties(ordinary(), false), true, "a program with empty slices")
	holdMay(t, roomy(ordinary()), true, "a program with unused capacity")
	holdMay(t, odd(), false, "an odd program")
	doubled := api.Program{Globals: []string{"a", "a"}, Procs: []api.Proc{
		{Name: "a", Params: []api.Param{{Name: "a"}, {Name: "a", Ref: true}}, Vars: []string{"a", "a"}, End: []string{"a", "a"}, Body: []api.Stmt{
			{Id: 1, Kind: api.SContinue, Labels: []string{"a", "a"}}, {Id: 2, Kind: api.SGoto, Name: "none"}, {Id: 3, Kind: api.SCall, Proc: "none", Name: "none", Args: []api.Arg{{Ref: true, Name: "none"}}},
		}}, {Name: "a"}}}
	holdMay(t, doubled, true, "a program whose names are declared twice or not at all")
	holdMay(t, api.Program{Procs: []api.Proc{{Name: "p", Vars: []string{"v"}}}}, true, "a program without main")
}

func TestNamesInEachPlace(t *testing.T) {
	places := 0
	p := ordinary()
	within(&p, func(path string, v reflect.Value) {
		if v.Kind() != reflect.String || v.Len() == 0 {
			return
		}
		places++
		was := v.String()
		for _, s := range goodNames {
			v.SetString(s)
			holdMay(t, p, true, s+" at "+path)
		}
		for _, s := range badNames {
			v.SetString(s)
			// Of all names only a call's may be missing.
			holdMay(t, p, s == "" && path == ".Procs[0].Body[2].Name", s[:min(len(s), 9)]+" at "+path)
		}
		v.SetString(was)
	})
	if places != 30 {
		t.Errorf("%d names in the ordinary program", places)
	}
	holdMay(t, p, true, "the ordinary program")
}

func TestFieldsThatAreNotThere(t *testing.T) {
	p := ordinary()
	within(&p, func(path string, v reflect.Value) {
		if v.Kind() != reflect.String || v.Len() > 0 {
			return
		}
		for _, s := range []string{"a", "if"} {
			v.SetString(s)
			holdMay(t, p, s == "a" && path == ".Procs[0].Body[3].Name", s+" at "+path)
		}
		v.SetString("")
	})
	holdMay(t, p, true, "the ordinary program")
}

func TestIds(t *testing.T) {
	p := ordinary()
	within(&p, func(path string, v reflect.Value) {
		if !strings.HasSuffix(path, ".Id") {
			return
		}
		was := v.Int()
		for _, id := range []int64{0, -1, was - 1, was + 1, 13, -was, math.MaxInt64, math.MinInt64} {
			v.SetInt(id)
			holdMay(t, p, false, "another id at "+path)
		}
		v.SetInt(was)
	})
	holdMay(t, p, true, "the ordinary program")
	p.Procs[0].Body[1].Then, p.Procs[0].Body[1].Else = p.Procs[0].Body[1].Else, p.Procs[0].Body[1].Then
	holdMay(t, p, false, "a program with Then and Else exchanged")
	p = ordinary()
	p.Procs[1], p.Procs[2] = p.Procs[2], p.Procs[1]
	holdMay(t, p, false, "a program with procedures exchanged")
}

// A field of a statement is zero, good or bad.
const (
	zero = iota
	good
	bad
)

// rules says for each kind which fields it must (+) and may (?) have.
var rules = map[int]string{
	api.SAssign: "+Name +X", api.SRead: "+Name", api.SPrint: "+X", api.SCall: "?Name +Proc ?Args", api.SIf: "+X ?Then ?Else",
	api.SWhile: "+X ?Then", api.SBreak: "", api.SContinue: "", api.SReturn: "", api.SGoto: "+Name",
}

func wanted(kind int, fields map[string]int) bool {
	rule, ok := rules[kind]
	if kind == api.SReturn && fields["Has"] == good {
		rule = "+Has +X"
	}
	for field, state := range fields {
		switch {
		case strings.Contains(rule, "+"+field):
			ok = ok && state == good
		case strings.Contains(rule, "?"+field) || field == "Labels":
			ok = ok && state != bad
		default:
			ok = ok && state == zero
		}
	}
	return ok
}

func TestEveryShapeOfStatement(t *testing.T) {
	names := []string{"", "a", "if"}
	xs := []api.Expr{{}, two(api.XAdd, num(1), name("b")), num(-1)}
	args := [][]api.Arg{nil, {{Ref: true, Name: "a"}, {X: num(1)}}, {{X: num(1)}, {Ref: true}}}
	labels := [][]string{nil, {"l", "m"}, {"l", ""}}
	for kind := -1; kind <= 12; kind++ {
		for k := range 3 * 3 * 3 * 3 * 3 * 2 * 2 * 2 {
			pick := func(n int) int { d := k % n; k /= n; return d }
			f := map[string]int{"Name": pick(3), "Proc": pick(3), "X": pick(3), "Args": pick(3), "Labels": pick(3), "Has": pick(2), "Then": pick(2), "Else": pick(2)}
			s := api.Stmt{Id: 1, Kind: kind, Name: names[f["Name"]], Proc: names[f["Proc"]], X: xs[f["X"]], Args: args[f["Args"]], Labels: labels[f["Labels"]], Has: f["Has"] == good}
			s.Then = []api.Stmt{{Id: 2, Kind: api.SBreak}}[:f["Then"]]
			s.Else = []api.Stmt{{Id: 2 + f["Then"], Kind: api.SBreak}}[:f["Else"]]
			if got := May(api.Program{Procs: []api.Proc{{Name: "p", Body: []api.Stmt{s}}}}); got != wanted(kind, f) {
				t.Errorf("P3.1: May of a program of %v = %t", s, got)
			}
		}
	}
}

func TestZeroExpressions(t *testing.T) {
	for _, x := range []api.Expr{{Op: 1}, {Op: -1}, {N: 1}, {N: -1}, {Name: "a"}, {Kids: []api.Expr{{}}}, num(0), name("a")} {
		for _, s := range []api.Stmt{{Kind: api.SRead, Name: "a"}, {Kind: api.SCall, Proc: "f"}, {Kind: api.SBreak}, {Kind: api.SContinue}, {Kind: api.SReturn}, {Kind: api.SGoto, Name: "a"}} {
			s.Id = 1
			p := api.Program{Procs: []api.Proc{{Name: "p", Body: []api.Stmt{s}}}}
			holdMay(t, p, true, "a statement without X")
			p.Procs[0].Body[0].X = x
			holdMay(t, p, false, "a statement with an X that its kind does not have")
		}
		p := api.Program{Procs: []api.Proc{{Name: "p", Body: []api.Stmt{{Id: 1, Kind: api.SCall, Proc: "f", Args: []api.Arg{{Ref: true, Name: "a", X: x}}}}}}}
		holdMay(t, p, false, "a reference with an X")
	}
	p := api.Program{Procs: []api.Proc{{Name: "p", Body: []api.Stmt{{Id: 1, Kind: api.SBreak, X: api.Expr{Kids: []api.Expr{}}}}}}}
	holdMay(t, p, true, "a zero X with an empty slice of kids")
}

func TestArguments(t *testing.T) {
	for _, ref := range []bool{false, true} {
		for _, s := range []string{"", "a", "if", "abcdefghi"} {
			for _, x := range []api.Expr{{}, num(0), num(-1), name("if"), two(api.XAdd, num(1), num(2))} {
				want := ref && s == "a" && x.Op == 0 || !ref && s == "" && MayExpr(x)
				arg := api.Arg{Ref: ref, Name: s, X: x}
				for at := range 3 {
					args := slices.Repeat([]api.Arg{{X: num(3)}}, 3)
					args[at] = arg
					p := api.Program{Procs: []api.Proc{{Name: "p", Body: []api.Stmt{{Id: 1, Kind: api.SCall, Proc: "f", Args: args}}}}}
					if got := May(p); got != want {
						t.Errorf("P3.1: May of a call with the argument %v = %t", arg, got)
					}
				}
			}
		}
	}
}

func TestSizesOfLists(t *testing.T) {
	for n := range 40 {
		names := slices.Repeat([]string{"a"}, n)
		holdMay(t, api.Program{Globals: names}, n <= 16, "some globals")
		holdMay(t, api.Program{Procs: slices.Repeat([]api.Proc{{Name: "p"}}, n)}, n <= 16, "some procedures")
		holdMay(t, api.Program{Procs: []api.Proc{{Name: "p"}, {Name: "p", Params: slices.Repeat([]api.Param{{Name: "a"}}, n)}}}, n <= 8, "some parameters")
		holdMay(t, api.Program{Procs: []api.Proc{{Name: "p"}, {Name: "p", Vars: names}}}, n <= 16, "some variables")
		holdMay(t, api.Program{Procs: []api.Proc{{Name: "p", Params: slices.Repeat([]api.Param{{Name: "a"}}, min(n, 8)), Vars: slices.Repeat([]string{"a"}, min(n, 16))}}}, true, "some of both")
		holdMay(t, api.Program{Procs: []api.Proc{{Name: "p", End: names, Body: []api.Stmt{{Id: 1, Kind: api.SBreak, Labels: names}}}}}, true, "some labels")
		holdMay(t, api.Program{Procs: []api.Proc{{Name: "p", Body: []api.Stmt{{Id: 1, Kind: api.SCall, Proc: "p", Args: slices.Repeat([]api.Arg{{X: num(1)}}, n)}}}}}, true, "some arguments")
	}
}

func TestNumberOfStatements(t *testing.T) {
	for _, n := range []int{0, 1, 199, 200, 201, 202, 1000, 100000} {
		row := slices.Repeat([]api.Stmt{{Kind: api.SBreak}}, n)
		flat := api.Program{Procs: []api.Proc{{Name: "p", Body: row}}}
		holdMay(t, Number(flat), n <= 200, "some statements")
		split := api.Program{Procs: []api.Proc{{Name: "p", Body: row[:n/2]}, {Name: "q", Body: row[n/2:]}}}
		holdMay(t, Number(split), n <= 200, "some statements in two procedures")
		nested := api.Program{Procs: []api.Proc{{Name: "p", Body: []api.Stmt{{Kind: api.SIf, X: num(1), Then: row[:n/2], Else: row[n/2:]}}}}}
		holdMay(t, Number(nested), n+1 <= 200, "some statements in one")
	}
}

func TestNesting(t *testing.T) {
	for depth := 1; depth <= 30; depth++ {
		for _, wrap := range []func(block []api.Stmt) api.Stmt{
			func(block []api.Stmt) api.Stmt { return api.Stmt{Kind: api.SWhile, X: num(1), Then: block} },
			func(block []api.Stmt) api.Stmt { return api.Stmt{Kind: api.SIf, X: num(1), Then: block} },
			func(block []api.Stmt) api.Stmt { return api.Stmt{Kind: api.SIf, X: num(1), Else: block} },
		} {
			block := []api.Stmt{{Kind: api.SIf, X: num(1), Then: []api.Stmt{}, Else: []api.Stmt{}}}
			for range depth - 1 {
				block = []api.Stmt{{Kind: api.SBreak}, wrap(block), {Kind: api.SBreak}}
			}
			p := Number(api.Program{Procs: []api.Proc{{Name: "p"}, {Name: "q", Body: block}}})
			holdMay(t, p, depth <= 12, "nested statements")
		}
	}
}
