package alias

import (
	"math"
	"reflect"
	"slices"
	"strings"
	"testing"

	"whittler/api"
	"whittler/tree"
)

func TestExampleOfTheChapter(t *testing.T) {
	p := read(t, "global g; proc main() { var x; print x; } proc f(ref a) { print g; }")
	holdFits(t, p, call("f", ref("x")), true)
	holdFits(t, p, call("f", ref("g")), false)
	holdCheck(t, p, api.Fault{})
	holdCheck(t, read(t, "global g; proc main() { var x; print x; f(ref x); } proc f(ref a) { print g; }"), api.Fault{})
	holdCheck(t, read(t, "global g; proc main() { var x; print x; f(ref g); } proc f(ref a) { print g; }"), wrong(2))
}

func TestOrdinaryStatements(t *testing.T) {
	p := ordinary()
	for id := 1; id <= 16; id++ {
		_, s, _ := tree.Find(p, id)
		holdFits(t, p, s, id == 5 || id == 9 || id == 10 || id == 12 || id == 13)
	}
	holdAll(t, p)
}

func TestStatementsOfOtherKinds(t *testing.T) {
	p := ordinary()
	for _, kind := range []int{math.MinInt64, -4, -1, 0, 1, 2, 3, 5, 6, 7, 8, 9, 10, 11, 14, 260, math.MaxInt64} {
		for _, s := range []api.Stmt{
			call("k", ref("x")), call("d"), call("main"), {Name: "k"}, {Name: "x", X: num(1)}, {}, {Id: 5}, call("f", ref("x"), val(num(1)), ref("y")),
			{Id: 9, Name: "h", Proc: "f", Args: []api.Arg{ref("x"), val(num(2)), ref("i")}},
		} {
			s.Kind = kind
			holdFits(t, p, s, false)
		}
	}
	for _, text := range []string{"x = 1;", "read x;", "print g;", "if (1) { k(ref x); }", "while (1) { d(); }", "break;", "continue;", "return;", "return x;", "goto l;"} {
		holdCall(t, p, text, false)
	}
}

func TestCallsThatAreOfNoFittingKind(t *testing.T) {
	p := ordinary()
	for _, text := range []string{
		"none();", "none(ref x);", "x = g();", "a();", "mai();", "kk(ref x);", "dd();",
		"k();", "k(x);", "k(1);", "k(ref x, ref y);", "k(ref x, 1);", "d(1);", "d(ref x);", "main(1);", "main(ref x);",
		"f();", "f(ref x);", "f(ref x, 1);", "f(ref x, ref y, ref z);", "f(1, ref x, ref y);", "f(ref x, 1, 2);", "f(x, 1, ref y);", "f(ref x, 1, ref y, ref z);", "f(1, 2, 3);",
	} {
		holdCall(t, p, text, false)
	}
	holdFits(t, p, call(""), false)
	holdFits(t, p, call("", ref("x")), false)
	holdFits(t, p, api.Stmt{Kind: api.SCall, Name: "k", Args: []api.Arg{ref("x")}}, false)
}

// What no variable is handed in to fits, that of main too: that it must not be called is asked elsewhere.
func TestCallsThatHandInNothingByReference(t *testing.T) {
	p := read(t, "global g; proc main() { print g; } proc d() { g = 1; } proc v(a, b) { g = a; }")
	for _, text := range []string{"d();", "x = d();", "g = d();", "main();", "g = main();", "v(g, g);", "g = v(g, g);", "x = v(x, x);", "x = v(g + x, x + g);", "v(1, 2);"} {
		holdCall(t, p, text, true)
	}
}

func TestTwoOfOneName(t *testing.T) {
	p := read(t, "global g; proc main() { } proc f(ref a, ref b) { } proc k(ref a, b, ref c, d, ref e) { } proc m(ref a, b) { } proc n(ref a, ref b, ref c) { } proc o(a, ref b) { }")
	for _, c := range []struct {
		text string
		want bool
	}{
		{"f(ref x, ref y);", true}, {"f(ref y, ref x);", true}, {"f(ref x, ref x);", false}, {"f(ref y, ref y);", false}, {"f(ref g, ref g);", false}, {"f(ref g, ref x);", true}, {"f(ref x, ref g);", true},
		// Side by side and apart.
		{"n(ref x, ref y, ref z);", true}, {"n(ref x, ref x, ref z);", false}, {"n(ref x, ref y, ref y);", false}, {"n(ref x, ref y, ref x);", false}, {"n(ref x, ref x, ref x);", false}, {"n(ref z, ref g, ref x);", true}, {"n(ref g, ref x, ref g);", false},
		{"k(ref x, 1, ref y, 2, ref z);", true}, {"k(ref x, 1, ref x, 2, ref z);", false}, {"k(ref x, 1, ref y, 2, ref y);", false}, {"k(ref x, 1, ref y, 2, ref x);", false},
		// One name by reference and inside of what is handed in by value, ahead and behind.
		{"m(ref x, x);", true}, {"o(x, ref x);", true}, {"m(ref g, g);", true}, {"o(g, ref g);", true}, {"m(ref x, -x + y * x);", true}, {"o(!x < 1, ref x);", true}, {"k(ref x, x, ref y, x + y, ref z);", true}, {"k(ref x, x, ref x, x, ref z);", false}, {"k(ref z, x, ref y, x, ref g);", true},
		// Names that are alike, but not the same.
		{"f(ref x, ref xx);", true}, {"f(ref ab, ref ba);", true}, {"f(ref abcdefgh, ref abcdefgg);", true}, {"f(ref abcdefgh, ref abcdefgh);", false}, {"n(ref x1, ref x, ref x2);", true},
		// Names of other things: of the procedure, of its parameters, of what it may call.
		{"f(ref f, ref main);", true}, {"f(ref f, ref f);", false}, {"f(ref a, ref b);", true}, {"f(ref b, ref a);", true}, {"f(ref b, ref b);", false},
	} {
		holdCall(t, p, c.text, c.want)
	}
}

// All rows of names for procedures of up to five parameters by reference.
func TestAllRowsOfNames(t *testing.T) {
	text := "global g, h; proc main() { } proc d() { g = 1; }"
	for n := range 6 {
		text += " proc f" + string(rune('a'+n)) + "(" + strings.Join(strings.Fields("ref_a ref_b ref_c ref_d ref_e")[:n], ", ") + ") { d(); }"
	}
	p := read(t, strings.ReplaceAll(text, "_", " "))
	names := strings.Fields("x y z g h")
	fit, not := 0, 0
	for n := range 6 {
		rows := 1
		for range n {
			rows *= len(names)
		}
		for row := range rows {
			s := call("f" + string(rune('a'+n)))
			count := map[string]int{"g": 1}
			for left := row; len(s.Args) < n; left /= len(names) {
				s.Args = append(s.Args, ref(names[left%len(names)]))
				count[names[left%len(names)]]++
			}
			want := count["g"] == 1 && count["h"] < 2 && count["x"] < 2 && count["y"] < 2 && count["z"] < 2
			holdFits(t, p, s, want)
			s.Name = names[row%5]
			holdFits(t, p, s, want && (s.Name == "g" || count[s.Name] == 0))
			if want {
				fit++
			} else {
				not++
			}
		}
	}
	if fit != 1+4+12+24+24 || not < 3000 {
		t.Errorf("%d rows fit, %d do not", fit, not)
	}
}

func TestEightArguments(t *testing.T) {
	p := read(t, "global g; proc main() { } proc f(ref a, ref b, ref c, ref d, ref e, ref f, ref g1, ref h) { }")
	row := call("f")
	for _, s := range strings.Fields("a b c d e f g h") {
		row.Args = append(row.Args, ref(s))
	}
	holdFits(t, p, row, true)
	for i := range 8 {
		for j := range 8 {
			s := row
			s.Args = slices.Clone(row.Args)
			s.Args[i] = s.Args[j]
			holdFits(t, p, s, i == j)
			s.Args[i], s.Name = row.Args[i], row.Args[j].Name
			holdFits(t, p, s, false)
		}
	}
	row.Name = "x"
	holdFits(t, p, row, true)
}

func TestWhoReceivesWhatIsGiven(t *testing.T) {
	p := read(t, "global g, h; proc main() { } proc f(ref a, ref b) { h = 1; return a; } proc v(a, ref b) { }")
	for _, c := range []struct {
		text string
		want bool
	}{
		{"f(ref x, ref y);", true}, {"z = f(ref x, ref y);", true}, {"x = f(ref x, ref y);", false}, {"y = f(ref x, ref y);", false}, {"x = f(ref y, ref y);", false}, {"x = f(ref x, ref x);", false},
		// A global receives, one that the procedure names too, as long as it is not handed in as well.
		{"g = f(ref x, ref y);", true}, {"h = f(ref x, ref y);", true}, {"g = f(ref g, ref y);", false}, {"g = f(ref x, ref g);", false}, {"h = f(ref x, ref g);", true}, {"g = f(ref x, ref h);", false}, {"x = f(ref g, ref y);", true},
		// By value it may be handed in.
		{"x = v(x, ref y);", true}, {"x = v(x + x, ref y);", true}, {"x = v(y, ref x);", false}, {"x = v(x, ref x);", false}, {"g = v(g, ref y);", true}, {"g = v(g, ref g);", false}, {"g = v(1, ref g);", false},
		// Names that are alike, or those of other things.
		{"xx = f(ref x, ref y);", true}, {"x = f(ref xx, ref x1);", true}, {"f = f(ref x, ref y);", true}, {"f = f(ref f, ref y);", false}, {"a = f(ref b, ref c);", true}, {"a = f(ref a, ref c);", false},
	} {
		holdCall(t, p, c.text, c.want)
	}
}

// A global is not handed in to a procedure that names it, in whatever way.
func TestGlobalsThatTheProcedureNames(t *testing.T) {
	for _, body := range []string{
		"g = 1;", "g = g;", "read g;", "print g;", "x = g;", "x = 1 + -g;", "return g;", "if (g) { }", "while (x || g) { }", "v(g);", "v(1 * g);", "r(ref g);", "g = r(ref x);", "g = d();", "x = v(g);",
		"if (1) { print g; }", "if (1) { } else { g = 2; }", "while (1) { while (1) { read g; } }", "if (1) { if (1) { } else { while (1) { return g; } } }", "return; print g;", "goto l; print g; l:", "while (0) { g = 1; }", "x = 1; a = 2; q = 3; g = 4;",
		// By a procedure that it calls, directly and indirectly.
		"n();", "x = n();", "x = n(); f(ref x);", "o();", "if (0) { o(); }", "while (1) { n(); break; }", "return; o();", "e();", "s(ref x);",
	} {
		p := read(t, "global g, q; proc main() { } proc f(ref a) { var x; "+body+" } proc v(b) { } proc r(ref b) { } proc d() { } proc n() { g = 1; } proc o() { n(); } proc e() { e(); o(); } proc s(ref c) { n(); }")
		holdCall(t, p, "f(ref g);", false)
		holdCall(t, p, "x = f(ref g);", false)
		holdCall(t, p, "q = f(ref g);", false)
		holdCall(t, p, "f(ref q);", !strings.Contains(body, "q"))
		holdCall(t, p, "f(ref x);", true)
		holdCall(t, p, "g = f(ref x);", true)
		holdCheck(t, read(t, "global g, q; proc f(ref a) { var x; "+body+" } proc main() { f(ref g); } proc v(b) { } proc r(ref b) { } proc d() { } proc n() { g = 1; } proc o() { n(); } proc e() { e(); o(); } proc s(ref c) { n(); }"), wrong(tree.Count(read(t, "proc z() { "+body+" }"))+1))
	}
}

// It is handed in to one that does not name it, even if others do, and if something else is called so.
func TestGlobalsThatTheProcedureDoesNotName(t *testing.T) {
	for _, body := range []string{
		"", "q = 1;", "read q; print q;", "a = a;", "read a;", "return a;", "x = a + x;", "f(ref a);", "f(ref x);", "x = f(ref a);", "m(ref a);", "m(ref q);", "m(ref x);",
		"g: x = 1; goto g;", "g();", "x = g();", "if (1) { g(); } else { } g:", "o();",
	} {
		p := read(t, "global g, q; proc main() { var x; g = 1; f(ref g); c(); } proc f(ref a) { var x; "+body+" } proc c() { var x; print g; f(ref x); } proc m(ref b) { } proc g() { } proc o() { g(); o(); }")
		holdCall(t, p, "f(ref g);", true)
		holdCall(t, p, "x = f(ref g);", true)
		holdCall(t, p, "q = f(ref g);", true)
		holdCall(t, p, "g = f(ref g);", false)
		holdCall(t, p, "f(ref q);", !strings.Contains(body, "q"))
		holdAll(t, p)
	}
}

// Whether a global is named counts for the called procedure, not for the one in which the call stands.
func TestWhoCalls(t *testing.T) {
	p := read(t, "global g; proc main() { g = 1; f(ref g); k(ref g); } proc f(ref a) { a = 1; k(ref a); } proc k(ref a) { var x; x = a; } proc m(ref a) { f(ref g); } proc n(ref a) { m(ref a); }")
	holdAll(t, p)
	holdCheck(t, p, api.Fault{})
	for proc, want := range map[string]bool{"f": true, "k": true, "m": false, "n": false} {
		holdFits(t, p, call(proc, ref("g")), want)
		holdFits(t, p, call(proc, ref("x")), true)
	}
}

// Variables and parameters of the procedure that calls are handed in, whatever those of the called one are.
func TestVariablesOfTheProcedureThatCalls(t *testing.T) {
	p := read(t, "global g; proc main() { var a, b, x; f(ref a, ref b); f(ref b, ref a); f(ref x, ref a); a = f(ref x, ref b); } "+
		"proc f(ref a, ref b) { var x, y; x = a; y = b; b = x; g = y; f(ref x, ref y); f(ref b, ref a); a = f(ref b, ref x); } proc k(a, ref b) { var c; f(ref a, ref b); b = f(ref a, ref c); }")
	holdAll(t, p)
	holdCheck(t, p, api.Fault{})
	for _, text := range []string{
		"proc main() { var x; f(ref x, ref x); } proc f(ref a, ref b) { }",
		"proc main() { } proc k(a) { f(ref a, ref a); } proc f(ref a, ref b) { }",
		"proc main() { } proc k(ref a) { f(ref a, ref a); } proc f(ref a, ref b) { }",
		"proc main() { } proc k(ref a) { var b; a = f(ref b, ref a); } proc f(ref a, ref b) { }",
		"proc main() { } proc k(a) { var b; a = f(ref a, ref b); } proc f(ref a, ref b) { }",
	} {
		p := read(t, text)
		holdAll(t, p)
		holdCheck(t, p, wrong(1))
	}
}

// The promise speaks of names alone: whether there is such a variable, and what else stands in the
// statement, does not matter.
func TestStatementsThatAreNotThePrograms(t *testing.T) {
	p := ordinary()
	for _, c := range []struct {
		s    api.Stmt
		want bool
	}{
		{call("f", ref("none"), val(name("none")), ref("other")), true},
		{call("f", ref("none"), val(name("none")), ref("none")), false},
		{call("f", ref("f"), val(name("main")), ref("main")), true},
		{call("f", ref("x"), val(name("x")), ref("g")), false},
		{call("f", ref("while"), api.Arg{}, ref("\xff\x00")), true},
		{call("f", ref("\xff\x00"), api.Arg{}, ref("\xff\x00")), false},
		// What is handed in by value has no name, whatever stands there.
		{call("f", ref("x"), api.Arg{Name: "x", X: num(-1)}, ref("y")), true},
		{call("f", ref("x"), api.Arg{Name: "g", X: api.Expr{Op: 99, Kids: []api.Expr{{}}}}, ref("y")), true},
		{call("f", api.Arg{Ref: true, Name: "x", X: name("y")}, api.Arg{Name: "y"}, api.Arg{Ref: true, Name: "y", X: name("g")}), true},
		{call("f", api.Arg{Ref: true, Name: "x", X: name("y")}, api.Arg{Name: "y"}, api.Arg{Ref: true, Name: "x", X: name("g")}), false},
		{call("k", ref("i")), true},
		{call("k", ref("g")), true},
		{call("k", ref(strings.Repeat("g", 100000))), true},
		{call("d"), true},
	} {
		for _, id := range []int{0, 1, 9, 16, 200, -1, math.MinInt64, math.MaxInt64} {
			for _, more := range []api.Stmt{
				{}, {Labels: []string{"l", "", "\xff", "x"}}, {Name: "z"}, {Name: "k"}, {X: num(1)}, {X: name("x"), Has: true},
				{Then: []api.Stmt{{Kind: api.SBreak}}, Else: []api.Stmt{call("none"), call("f"), call("f", ref("x"), val(num(1)), ref("x"))}},
			} {
				more.Id, more.Kind, more.Proc, more.Args = id, c.s.Kind, c.s.Proc, c.s.Args
				holdFits(t, p, more, c.want)
			}
		}
	}
}

// An empty name is a name like any other: where nobody receives, an Arg with it has the Name of the call.
func TestEmptyNames(t *testing.T) {
	p := ordinary()
	holdFits(t, p, call("k", ref("")), false)
	holdFits(t, p, call("f", ref(""), val(num(1)), ref("x")), false)
	s := call("k", ref(""))
	s.Name = "x"
	holdFits(t, p, s, true)
	s = call("f", ref(""), val(num(1)), ref(""))
	s.Name = "x"
	holdFits(t, p, s, false)
}

// holdFit does not show the statement, which may be too great for that.
func holdFit(t *testing.T, p api.Program, s api.Stmt, want bool, what string) {
	t.Helper()
	if got := Fits(p, s); got != want {
		t.Errorf("P10.1: Fits of %s = %v", what, got)
	}
}

func TestStatementsOfAnyShape(t *testing.T) {
	p := ordinary()
	x := name("x")
	for range 300000 {
		x = one(api.XNeg, x)
	}
	holdFit(t, p, call("f", ref("x"), val(x), ref("y")), true, "an expression much too deep")
	holdFit(t, p, call("f", ref("x"), val(x), ref("x")), false, "an expression much too deep")
	block := []api.Stmt{call("k", ref("x"))}
	for range 300000 {
		block = []api.Stmt{{Kind: api.SCall, Proc: "k", Args: []api.Arg{ref("y")}, X: x, Then: block}}
	}
	holdFit(t, p, block[0], true, "statements much too deep")
	block[0].Kind = api.SWhile
	holdFit(t, p, block[0], false, "statements much too deep")
	block[0].Kind = api.SCall
	block[0].Then = block
	holdFit(t, p, block[0], true, "statements that contain themselves")
	many := slices.Repeat([]api.Arg{ref("x"), val(num(1)), ref("y")}, 300000)
	holdFit(t, p, call("f", many...), false, "many arguments")
	holdFit(t, p, call("f", many[:3]...), true, "the first of many arguments")
	holdFit(t, p, call("d", many[:0]...), true, "none of many arguments")
}

func TestFitsLeavesAllAsItIs(t *testing.T) {
	p := roomy(ordinary())
	s := roomy(call("f", ref("x"), val(two(api.XAdd, name("x"), num(1))), ref("y")))
	s.Then = roomy([]api.Stmt{call("d")})
	before, was := snapshot(p), snapshot(s)
	holdFits(t, p, s, true)
	s.Args[2].Name, was.Args[2].Name = "x", "x"
	holdFits(t, p, s, false)
	if !reflect.DeepEqual(snapshot(p), before) || !reflect.DeepEqual(snapshot(s), was) {
		t.Errorf("P0.3: Fits changes what it is given")
	}
}

// An answer hangs on what the program is now, and not on what it was in an earlier call.
func TestFitsKeepsNothing(t *testing.T) {
	p := ordinary()
	s := call("f", ref("h"), val(num(1)), ref("x"))
	for range 3 {
		holdFits(t, p, s, true)
		p.Procs[3].Body[0].Name = "h"
		holdFits(t, p, s, false)
		p.Procs[3].Body[0].Name = "g"
		holdFits(t, p, s, true)
		s.Name = "x"
		holdFits(t, p, s, false)
		s.Name = ""
		p.Procs[1].Params[0].Ref = false
		holdFits(t, p, s, false)
		p.Procs[1].Params[0].Ref = true
	}
}

func TestFitsTakesNilAndEmptyAlike(t *testing.T) {
	for _, asNil := range []bool{true, false} {
		for _, sNil := range []bool{true, false} {
			p := empties(ordinary(), asNil)
			holdFits(t, p, empties(call("d"), sNil), true)
			holdFits(t, p, empties(call("k"), sNil), false)
			holdFits(t, p, empties(call("k", ref("i")), sNil), true)
			holdFits(t, p, empties(call("f", ref("g"), val(num(1)), ref("x")), sNil), false)
			holdFits(t, empties(api.Program{}, asNil), empties(call("d"), sNil), false)
			holdFits(t, empties(api.Program{}, asNil), empties(api.Stmt{}, sNil), false)
		}
	}
}
