package arity

import (
	"math"
	"reflect"
	"slices"
	"strings"
	"testing"

	"whittler/api"
	"whittler/tree"
)

func TestOrdinaryCalls(t *testing.T) {
	p := ordinary()
	for id := 1; id <= 14; id++ {
		_, s, _ := tree.Find(p, id)
		holdFits(t, p, s, id == 8 || id == 9 || id == 10 || id == 12)
	}
}

// Procedures with all rows of few parameters, called with all rows of few arguments.
func TestAllSmallRows(t *testing.T) {
	for _, row := range rows(4) {
		p := read(t, "global g; proc main() { } proc f() { } proc k(a) { } proc m(ref a) { }")
		p.Procs[1].Params = params(row)
		for _, given := range rows(5) {
			holdFits(t, p, call("f", args(given, "g")...), given == row)
			q := tree.Number(p)
			q.Procs[0].Body = []api.Stmt{{Id: 1, Kind: api.SCall, Proc: "f", Args: args(given, "g")}}
			want := wrong(1)
			if given == row {
				want = api.Fault{}
			}
			holdCheck(t, q, want)
		}
	}
}

func TestEightParameters(t *testing.T) {
	for _, row := range []string{"rrrrrrrr", "vvvvvvvv", "rvrvrvrv", "vvvrrrvr"} {
		p := read(t, "global g; proc main() { } proc f() { }")
		p.Procs[1].Params = params(row)
		holdFits(t, p, call("f", args(row, "g")...), true)
		for n := range row {
			holdFits(t, p, call("f", args(row[:n], "g")...), false)
			holdFits(t, p, call("f", args(row[n+1:], "g")...), false)
			for _, other := range []string{"r", "v"} {
				holdFits(t, p, call("f", args(row[:n]+other+row[n+1:], "g")...), row[n:n+1] == other)
			}
		}
		for _, more := range []string{"r", "v", "rv", row, strings.Repeat("v", 100000)} {
			holdFits(t, p, call("f", args(row+more, "g")...), false)
		}
	}
}

// What is handed in by value may be any expression, a lone name too; what it is called does not matter.
func TestWhatIsHandedIn(t *testing.T) {
	values := []api.Expr{num(0), num(7), num(math.MaxInt64), name("x"), name("g"), name("a"), one(api.XNeg, name("x")), one(api.XNot, num(1))}
	for op := api.XMul; op <= api.XOr; op++ {
		values = append(values, two(op, name("x"), num(1)), two(op, num(1), name("g")))
	}
	p := read(t, "global g; proc main() { var x; x = 1; } proc f(a, ref b) { } proc k(ref a, b) { }")
	for _, x := range values {
		for _, s := range []string{"x", "g", "a", "b"} {
			holdFits(t, p, call("f", val(x), ref(s)), true)
			holdFits(t, p, call("k", ref(s), val(x)), true)
			holdFits(t, p, call("f", ref(s), val(x)), false)
			holdFits(t, p, call("k", val(x), ref(s)), false)
			holdFits(t, p, call("f", ref(s), ref(s)), false)
			holdFits(t, p, call("k", val(x), val(x)), false)
			holdFits(t, p, call("f", val(x)), false)
			holdFits(t, p, call("k", ref(s)), false)
			holdFits(t, p, call("f", val(x), ref(s), val(x)), false)
		}
	}
}

// A call is held against the procedure that it calls, wherever it stands, and against no other.
func TestEachProcedureHasItsOwnRow(t *testing.T) {
	every := rows(3)
	p := api.Program{Globals: []string{"g"}, Procs: []api.Proc{{Name: "main"}}}
	for i, row := range every {
		p.Procs = append(p.Procs, api.Proc{Name: "f" + string(rune('a'+i)), Params: params(row)})
	}
	for turn := range p.Procs {
		q := p
		q.Procs = slices.Concat(p.Procs[turn:], p.Procs[:turn])
		for i, row := range every {
			for _, given := range every {
				holdFits(t, q, call("f"+string(rune('a'+i)), args(given, "g")...), given == row)
			}
		}
	}
}

func TestStatementsOfOtherKinds(t *testing.T) {
	p := ordinary()
	for _, kind := range []int{math.MinInt64, -4, -1, 0, 1, 2, 3, 5, 6, 7, 8, 9, 10, 11, 14, 260, math.MaxInt64} {
		for _, s := range []api.Stmt{
			call("f", ref("x"), val(num(1))), call("k"), call("main"), {Name: "k"}, {Name: "f", X: num(1)}, {}, {Id: 9},
			{Id: 9, Name: "y", Proc: "f", Args: []api.Arg{ref("x"), val(two(api.XMul, num(2), name("h")))}},
		} {
			s.Kind = kind
			holdFits(t, p, s, false)
		}
	}
}

func TestProceduresThatAreNotThere(t *testing.T) {
	p := ordinary()
	for _, s := range []string{"", "x", "a", "v", "g", "l", "e", "p", "ff", "K", "kk", "mai", "mainx", " k", "k ", "\x00", "\xff", "while", "$in", "$ret", strings.Repeat("k", 100000)} {
		holdFits(t, p, call(s), false)
		holdFits(t, p, call(s, ref("x"), val(num(1))), false)
		holdFits(t, p, api.Stmt{Kind: api.SCall, Name: "k", Proc: s}, false)
	}
}

// The procedure main exists and has no parameters; that it must not be called is asked by scope.Check.
func TestCallsOfMain(t *testing.T) {
	for _, p := range []api.Program{ordinary(), read(t, "proc main() { }"), read(t, "proc f(a) { } proc main() { } proc k() { }")} {
		holdFits(t, p, call("main"), true)
		holdFits(t, p, call("main", ref("x")), false)
		holdFits(t, p, call("main", val(num(1))), false)
		holdFits(t, p, call("main", ref("x"), val(num(1))), false)
	}
	holdNothing(t, read(t, "proc main() { main(); } proc f() { }"), "a call of main")
}

// The promise speaks of the kind, of Proc and of how many Args there are and of which Ref; nothing else matters.
func TestStatementsThatAreNotThePrograms(t *testing.T) {
	p := ordinary()
	for _, c := range []struct {
		s    api.Stmt
		want bool
	}{
		{call("f", ref("x"), val(num(1))), true},
		{call("f", val(num(1)), ref("x")), false},
		{call("f", ref("none"), val(name("none"))), true},
		{call("f", ref("f"), val(name("main"))), true},
		{call("f", ref("none")), false},
		{call("f", api.Arg{Ref: true}, api.Arg{}), true},
		{call("f", api.Arg{}, api.Arg{}), false},
		{call("f", api.Arg{Ref: true, Name: "while", X: num(-1)}, api.Arg{Name: "x", X: api.Expr{Op: 99, Kids: []api.Expr{{}}}}), true},
		{call("f", api.Arg{Name: "x", X: num(-1)}, api.Arg{Ref: true, X: num(1)}), false},
		{call("k"), true},
		{call("k", api.Arg{}), false},
		{call("k", api.Arg{Ref: true}), false},
	} {
		for _, id := range []int{0, 1, 9, 11, 200, 201, -1, math.MinInt64, math.MaxInt64} {
			for _, more := range []api.Stmt{
				{}, {Labels: []string{"l", "", "\xff"}}, {Name: "x"}, {Name: "none"}, {Name: "k"}, {X: num(1)}, {X: name("none"), Has: true},
				{Then: []api.Stmt{{Kind: api.SBreak}}, Else: []api.Stmt{call("none"), call("f")}},
			} {
				more.Id, more.Kind, more.Proc, more.Args = id, c.s.Kind, c.s.Proc, c.s.Args
				holdFits(t, p, more, c.want)
			}
		}
	}
}

// holdFit does not show the statement, which may be too great for that.
func holdFit(t *testing.T, p api.Program, s api.Stmt, want bool, what string) {
	t.Helper()
	if got := Fits(p, s); got != want {
		t.Errorf("P7.1: Fits of %s = %v", what, got)
	}
}

func TestStatementsOfAnyShape(t *testing.T) {
	p := ordinary()
	x := name("x")
	for range 300000 {
		x = one(api.XNeg, x)
	}
	holdFit(t, p, call("f", ref("x"), val(x)), true, "an expression much too deep")
	holdFit(t, p, call("f", val(x), val(x)), false, "an expression much too deep")
	block := []api.Stmt{call("k")}
	for range 300000 {
		block = []api.Stmt{{Kind: api.SCall, Proc: "k", X: x, Then: block}}
	}
	holdFit(t, p, block[0], true, "statements much too deep")
	block[0].Kind = api.SWhile
	holdFit(t, p, block[0], false, "statements much too deep")
	many := slices.Repeat([]api.Arg{ref("x"), val(num(1))}, 500000)
	holdFit(t, p, call("f", many...), false, "a million arguments")
	holdFit(t, p, call("f", many[:2]...), true, "the first two of many arguments")
	holdFit(t, p, call("k", many[:0]...), true, "none of many arguments")
}

func TestFitsLeavesAllAsItIs(t *testing.T) {
	p := roomy(ordinary())
	s := roomy(call("f", ref("x"), val(two(api.XAdd, name("x"), num(1)))))
	s.Then = roomy([]api.Stmt{call("k")})
	before, was := snapshot(p), snapshot(s)
	holdFits(t, p, s, true)
	s.Args[1].Ref, was.Args[1].Ref = true, true
	holdFits(t, p, s, false)
	if !reflect.DeepEqual(snapshot(p), before) || !reflect.DeepEqual(snapshot(s), was) {
		t.Errorf("P0.3: Fits changes what it is given")
	}
}

// An answer hangs on what the program is now, and not on what it was in an earlier call.
func TestFitsKeepsNothing(t *testing.T) {
	p := ordinary()
	s := call("f", ref("x"), val(num(1)))
	for range 3 {
		holdFits(t, p, s, true)
		p.Procs[1].Params[0].Ref = false
		holdFits(t, p, s, false)
		p.Procs[1].Params[0].Ref = true
		s.Args[0] = val(num(2))
		holdFits(t, p, s, false)
		s.Args[0] = ref("x")
		p.Globals[1] = "g"
		holdFits(t, p, s, false)
		p.Globals[1] = "h"
	}
}

func TestFitsTakesNilAndEmptyAlike(t *testing.T) {
	for _, asNil := range []bool{true, false} {
		for _, sNil := range []bool{true, false} {
			p := empties(ordinary(), asNil)
			holdFits(t, p, empties(call("k"), sNil), true)
			holdFits(t, p, empties(call("f"), sNil), false)
			holdFits(t, p, empties(call("f", ref("x"), val(num(1))), sNil), true)
			holdFits(t, empties(api.Program{}, asNil), empties(call("k"), sNil), false)
			holdFits(t, empties(api.Program{}, asNil), empties(api.Stmt{}, sNil), false)
		}
	}
}
