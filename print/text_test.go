package print

import (
	"math"
	"reflect"
	"slices"
	"strconv"
	"strings"
	"testing"

	"whittler/api"
	"whittler/parse"
	"whittler/tree"
)

func TestOrdinaryProgram(t *testing.T) {
	holdText(t, ordinary(), ordinaryText)
	holdText(t, api.Program{Globals: []string{"g"}}, "global g;\n")
}

func TestGlobals(t *testing.T) {
	if got := Text(api.Program{}); got != "" {
		t.Errorf("P5.2: Text of a program without anything = %q", got)
	}
	holdText(t, api.Program{Globals: []string{}, Procs: []api.Proc{}}, "")
	holdText(t, api.Program{Globals: []string{"a", "b"}}, "global a, b;\n")
	holdText(t, api.Program{Globals: []string{"abcdefgh", "z9", "abcdefgh"}}, "global abcdefgh, z9, abcdefgh;\n")
	for n := 1; n <= 16; n++ {
		row := slices.Repeat([]string{"ab"}, n)
		holdText(t, api.Program{Globals: row}, "global ab"+strings.Repeat(", ab", n-1)+";\n")
	}
	holdText(t, api.Program{Globals: []string{"g"}, Procs: []api.Proc{{Name: "p"}}}, "global g;\nproc p() {\n}\n")
}

func TestProcedures(t *testing.T) {
	stop := []api.Stmt{{Id: 1, Kind: api.SBreak}}
	for _, c := range []struct {
		proc api.Proc
		want string
	}{
		{api.Proc{Name: "p"}, "proc p() {\n}\n"},
		{api.Proc{Name: "abcdefgh"}, "proc abcdefgh() {\n}\n"},
		{api.Proc{Name: "p", Params: []api.Param{{Name: "a"}}}, "proc p(a) {\n}\n"},
		{api.Proc{Name: "p", Params: []api.Param{{Name: "a", Ref: true}}}, "proc p(ref a) {\n}\n"},
		{api.Proc{Name: "p", Params: []api.Param{{Name: "a"}, {Name: "b"}}}, "proc p(a, b) {\n}\n"},
		{api.Proc{Name: "p", Params: []api.Param{{Name: "a"}, {Name: "b", Ref: true}, {Name: "c"}}}, "proc p(a, ref b, c) {\n}\n"},
		{api.Proc{Name: "p", Params: []api.Param{{Name: "a", Ref: true}, {Name: "b", Ref: true}}}, "proc p(ref a, ref b) {\n}\n"},
		{api.Proc{Name: "p", Vars: []string{"a"}}, "proc p() {\n var a;\n}\n"},
		{api.Proc{Name: "p", Vars: []string{"a", "b", "a"}}, "proc p() {\n var a, b, a;\n}\n"},
		{api.Proc{Name: "p", Body: stop}, "proc p() {\n break;\n}\n"},
		{api.Proc{Name: "p", Vars: []string{"v"}, Body: stop}, "proc p() {\n var v;\n break;\n}\n"},
		{api.Proc{Name: "p", End: []string{"e"}}, "proc p() {\ne: }\n"},
		{api.Proc{Name: "p", End: []string{"e", "d", "e"}}, "proc p() {\ne: d: e: }\n"},
		{api.Proc{Name: "p", Vars: []string{"v"}, End: []string{"e"}}, "proc p() {\n var v;\ne: }\n"},
		{api.Proc{Name: "p", Body: stop, End: []string{"e", "d"}}, "proc p() {\n break;\ne: d: }\n"},
		{api.Proc{Name: "p", Params: []api.Param{{Name: "a"}, {Name: "b", Ref: true}}, Vars: []string{"v", "w"}, Body: stop, End: []string{"e"}}, "proc p(a, ref b) {\n var v, w;\n break;\ne: }\n"},
	} {
		holdText(t, api.Program{Procs: []api.Proc{c.proc}}, c.want)
		holdText(t, api.Program{Globals: []string{"g", "h"}, Procs: []api.Proc{c.proc, {Name: "q", End: []string{"l"}}}}, "global g, h;\n"+c.want+"proc q() {\nl: }\n")
		holdText(t, api.Program{Procs: []api.Proc{{Name: "q", Vars: []string{"x"}}, c.proc, {Name: "q"}}}, "proc q() {\n var x;\n}\n"+c.want+"proc q() {\n}\n")
	}
}

func TestStatementsOfTwoProcedures(t *testing.T) {
	p := tree.Number(api.Program{Procs: []api.Proc{
		{Name: "p", Body: []api.Stmt{{Kind: api.SBreak}, {Kind: api.SWhile, X: num(1), Then: []api.Stmt{{Kind: api.SReturn}}}}, End: []string{"e"}},
		{Name: "q", Vars: []string{"v"}, Body: []api.Stmt{{Kind: api.SContinue}}},
	}})
	holdText(t, p, "proc p() {\n break;\n while (1) {\n  return;\n }\ne: }\nproc q() {\n var v;\n continue;\n}\n")
}

// simple has statements without others in them, and how they are written.
var simple = []struct {
	s    api.Stmt
	want string
}{
	{api.Stmt{Kind: api.SAssign, Name: "x", X: num(1)}, "x = 1;"},
	{api.Stmt{Kind: api.SAssign, Name: "abcdefgh", X: two(api.XSub, name("a"), two(api.XSub, name("b"), name("c")))}, "abcdefgh = a - (b - c);"},
	{api.Stmt{Kind: api.SAssign, Name: "x", X: one(api.XNot, name("x"))}, "x = !x;"},
	{api.Stmt{Kind: api.SCall, Proc: "f"}, "f();"},
	{api.Stmt{Kind: api.SCall, Proc: "f", Args: []api.Arg{{X: name("a")}}}, "f(a);"},
	{api.Stmt{Kind: api.SCall, Proc: "f", Args: []api.Arg{{Ref: true, Name: "a"}}}, "f(ref a);"},
	{api.Stmt{Kind: api.SCall, Proc: "f", Args: []api.Arg{{X: name("a")}, {Ref: true, Name: "b"}}}, "f(a, ref b);"},
	{api.Stmt{Kind: api.SCall, Proc: "f", Args: []api.Arg{{Ref: true, Name: "b"}, {X: two(api.XOr, two(api.XAdd, num(1), num(2)), name("c"))}, {X: one(api.XNeg, num(0))}, {Ref: true, Name: "b"}}}, "f(ref b, 1 + 2 || c, -0, ref b);"},
	{api.Stmt{Kind: api.SCall, Name: "x", Proc: "f"}, "x = f();"},
	{api.Stmt{Kind: api.SCall, Name: "x", Proc: "f", Args: []api.Arg{{X: name("a")}, {Ref: true, Name: "b"}}}, "x = f(a, ref b);"},
	{api.Stmt{Kind: api.SCall, Name: "f", Proc: "f", Args: []api.Arg{{X: two(api.XMul, num(3), two(api.XAdd, name("f"), num(4)))}}}, "f = f(3 * (f + 4));"},
	{api.Stmt{Kind: api.SBreak}, "break;"},
	{api.Stmt{Kind: api.SContinue}, "continue;"},
	{api.Stmt{Kind: api.SReturn}, "return;"},
	{api.Stmt{Kind: api.SReturn, Has: true, X: num(0)}, "return 0;"},
	{api.Stmt{Kind: api.SReturn, Has: true, X: one(api.XNeg, two(api.XAdd, name("a"), num(1)))}, "return -(a + 1);"},
	{api.Stmt{Kind: api.SGoto, Name: "l"}, "goto l;"},
	{api.Stmt{Kind: api.SRead, Name: "x"}, "read x;"},
	{api.Stmt{Kind: api.SPrint, X: name("e")}, "print e;"},
	{api.Stmt{Kind: api.SPrint, X: two(api.XDiv, two(api.XRem, name("a"), num(2)), num(most))}, "print a % 2 / 9223372036854775807;"},
}

// rows has labels of a statement, and how they are written.
var rows = []struct {
	labels []string
	want   string
}{{nil, ""}, {[]string{"l"}, "l: "}, {[]string{"l", "m"}, "l: m: "}, {[]string{"abcdefgh", "x", "abcdefgh", "z9"}, "abcdefgh: x: abcdefgh: z9: "}}

func TestEachKindOfStatement(t *testing.T) {
	for _, c := range simple {
		for _, row := range rows {
			s := c.s
			s.Labels = row.labels
			line := row.want + c.want
			stop := api.Stmt{Kind: api.SBreak}
			holdText(t, body(s), lines("proc p() {", " "+line, "}"))
			holdText(t, body(stop, s, s, stop), lines("proc p() {", " break;", " "+line, " "+line, " break;", "}"))
			holdText(t, body(api.Stmt{Kind: api.SWhile, X: num(1), Then: []api.Stmt{s, stop}}), lines("proc p() {", " while (1) {", "  "+line, "  break;", " }", "}"))
			holdText(t, body(api.Stmt{Kind: api.SIf, X: num(1), Then: []api.Stmt{stop, s}}), lines("proc p() {", " if (1) {", "  break;", "  "+line, " }", "}"))
			holdText(t, body(api.Stmt{Kind: api.SIf, X: num(1), Else: []api.Stmt{s}}), lines("proc p() {", " if (1) {", " } else {", "  "+line, " }", "}"))
			holdText(t, body(api.Stmt{Kind: api.SIf, X: num(1), Then: []api.Stmt{s}, Else: []api.Stmt{s, s}}), lines("proc p() {", " if (1) {", "  "+line, " } else {", "  "+line, "  "+line, " }", "}"))
		}
	}
}

func TestLoopsAndBranches(t *testing.T) {
	stop, on := []api.Stmt{{Kind: api.SBreak}}, []api.Stmt{{Kind: api.SContinue}}
	x := one(api.XNeg, two(api.XEq, name("x"), num(1)))
	for _, row := range rows {
		for _, c := range []struct {
			s    api.Stmt
			want []string
		}{
			{api.Stmt{Kind: api.SWhile, X: x}, []string{"while (-(x == 1)) {", "}"}},
			{api.Stmt{Kind: api.SWhile, X: name("a")}, []string{"while (a) {", "}"}},
			{api.Stmt{Kind: api.SWhile, X: num(0), Then: []api.Stmt{}}, []string{"while (0) {", "}"}},
			{api.Stmt{Kind: api.SWhile, X: two(api.XAnd, name("a"), name("b")), Then: stop}, []string{"while (a && b) {", " break;", "}"}},
			{api.Stmt{Kind: api.SWhile, X: num(1), Then: slices.Concat(stop, on, stop)}, []string{"while (1) {", " break;", " continue;", " break;", "}"}},
			{api.Stmt{Kind: api.SIf, X: x}, []string{"if (-(x == 1)) {", "}"}},
			{api.Stmt{Kind: api.SIf, X: name("a"), Then: []api.Stmt{}, Else: []api.Stmt{}}, []string{"if (a) {", "}"}},
			{api.Stmt{Kind: api.SIf, X: two(api.XOr, name("a"), name("b")), Then: stop}, []string{"if (a || b) {", " break;", "}"}},
			{api.Stmt{Kind: api.SIf, X: num(2), Else: stop}, []string{"if (2) {", "} else {", " break;", "}"}},
			{api.Stmt{Kind: api.SIf, X: num(2), Then: on, Else: stop}, []string{"if (2) {", " continue;", "} else {", " break;", "}"}},
			{api.Stmt{Kind: api.SIf, X: num(2), Then: slices.Concat(on, stop), Else: slices.Concat(stop, on)}, []string{"if (2) {", " continue;", " break;", "} else {", " break;", " continue;", "}"}},
		} {
			s := c.s
			s.Labels = row.labels
			want := slices.Clone(c.want)
			want[0] = row.want + want[0]
			holdText(t, body(s), lines("proc p() {", " "+strings.Join(want, "\n "), "}"))
			inner := "  " + strings.Join(want, "\n  ")
			holdText(t, body(api.Stmt{Kind: api.SBreak}, api.Stmt{Kind: api.SIf, X: num(3), Then: []api.Stmt{s}, Else: []api.Stmt{s, s}}), lines("proc p() {", " break;", " if (3) {", inner, " } else {", inner, inner, " }", "}"))
			holdText(t, body(api.Stmt{Kind: api.SWhile, X: num(3), Then: []api.Stmt{s, s}}, api.Stmt{Kind: api.SBreak}), lines("proc p() {", " while (3) {", inner, inner, " }", " break;", "}"))
		}
	}
}

func TestNesting(t *testing.T) {
	inBlock := func(lines []string) []string {
		var out []string
		for _, line := range lines {
			out = append(out, " "+line)
		}
		return out
	}
	for _, c := range []struct {
		wrap       func(block []api.Stmt) api.Stmt
		head, tail []string
	}{
		{func(block []api.Stmt) api.Stmt { return api.Stmt{Kind: api.SWhile, X: num(1), Then: block} }, []string{"while (1) {"}, []string{"}"}},
		{func(block []api.Stmt) api.Stmt { return api.Stmt{Kind: api.SIf, X: num(1), Then: block} }, []string{"if (1) {"}, []string{"}"}},
		{func(block []api.Stmt) api.Stmt { return api.Stmt{Kind: api.SIf, X: num(1), Else: block} }, []string{"if (1) {", "} else {"}, []string{"}"}},
		{func(block []api.Stmt) api.Stmt {
			return api.Stmt{Kind: api.SIf, Labels: []string{"l"}, X: num(1), Then: block, Else: []api.Stmt{{Kind: api.SBreak}}}
		}, []string{"l: if (1) {"}, []string{"} else {", " break;", "}"}},
	} {
		block, want := []api.Stmt{{Kind: api.SReturn}}, []string{"return;"}
		for depth := 1; depth <= 20; depth++ {
			p := body(block...)
			if depth <= api.MaxNest {
				holdText(t, p, lines(slices.Concat([]string{"proc p() {"}, inBlock(want), []string{"}"})...))
			} else {
				holdNoText(t, p, "statements of the depth "+strconv.Itoa(depth))
			}
			block = []api.Stmt{{Kind: api.SReturn}, c.wrap(block), {Kind: api.SReturn}}
			want = slices.Concat([]string{"return;"}, c.head, inBlock(want), c.tail, []string{"return;"})
		}
	}
}

func TestProgramsThatAreNotWellFormed(t *testing.T) {
	stop := api.Stmt{Kind: api.SBreak}
	for what, p := range map[string]api.Program{
		"a global that is a keyword":    {Globals: []string{"if"}},
		"a global without a name":       {Globals: []string{"a", ""}},
		"17 globals":                    {Globals: slices.Repeat([]string{"a"}, 17)},
		"17 procedures":                 {Procs: slices.Repeat([]api.Proc{{Name: "p"}}, 17)},
		"9 parameters":                  {Procs: []api.Proc{{Name: "p", Params: slices.Repeat([]api.Param{{Name: "a"}}, 9)}}},
		"17 variables":                  {Procs: []api.Proc{{Name: "p", Vars: slices.Repeat([]string{"a"}, 17)}}},
		"a procedure without a name":    {Procs: []api.Proc{{}}},
		"a bad parameter":               {Procs: []api.Proc{{Name: "p", Params: []api.Param{{Name: "A"}}}}},
		"a bad variable":                {Procs: []api.Proc{{Name: "p", Vars: []string{"a b"}}}},
		"a bad label at the end":        {Procs: []api.Proc{{Name: "p", End: []string{"e", ""}}}},
		"a bad label":                   body(api.Stmt{Kind: api.SBreak, Labels: []string{"ref"}}),
		"a statement without a kind":    body(api.Stmt{}),
		"a statement of the kind 11":    body(api.Stmt{Kind: 11}),
		"a statement of the kind -1":    body(stop, api.Stmt{Kind: -1}),
		"an id that is missing":         {Procs: []api.Proc{{Name: "p", Body: []api.Stmt{stop}}}},
		"an id that is another's":       {Procs: []api.Proc{{Name: "p", Body: []api.Stmt{{Id: 1, Kind: api.SBreak}, {Id: 1, Kind: api.SBreak}}}}},
		"201 statements":                body(slices.Repeat([]api.Stmt{stop}, 201)...),
		"an assignment without X":       body(api.Stmt{Kind: api.SAssign, Name: "a"}),
		"an assignment without Name":    body(api.Stmt{Kind: api.SAssign, X: num(1)}),
		"a break with a name":           body(api.Stmt{Kind: api.SBreak, Name: "a"}),
		"a return with X and not Has":   body(api.Stmt{Kind: api.SReturn, X: num(1)}),
		"a return with Has and not X":   body(api.Stmt{Kind: api.SReturn, Has: true}),
		"a loop with an Else":           body(api.Stmt{Kind: api.SWhile, X: num(1), Else: []api.Stmt{stop}}),
		"a call without a procedure":    body(api.Stmt{Kind: api.SCall, Name: "x"}),
		"an argument without anything":  body(api.Stmt{Kind: api.SCall, Proc: "f", Args: []api.Arg{{}}}),
		"an argument of both kinds":     body(api.Stmt{Kind: api.SCall, Proc: "f", Args: []api.Arg{{Ref: true, Name: "a", X: num(1)}}}),
		"a name that is no reference":   body(api.Stmt{Kind: api.SCall, Proc: "f", Args: []api.Arg{{Name: "a"}}}),
		"a bad statement in a Then":     body(api.Stmt{Kind: api.SIf, X: num(1), Then: []api.Stmt{{}}}),
		"a bad statement in an Else":    body(api.Stmt{Kind: api.SIf, X: num(1), Else: []api.Stmt{stop, {Kind: api.SGoto}}}),
		"a bad last procedure":          {Globals: []string{"g"}, Procs: []api.Proc{{Name: "p"}, {Name: "q"}, {Name: "Q"}}},
		"a bad statement in the second": tree.Number(api.Program{Procs: []api.Proc{{Name: "p", Body: []api.Stmt{stop}}, {Name: "q", Body: []api.Stmt{stop, {Kind: api.SRead}}}}}),
	} {
		holdNoText(t, p, what)
	}
	loop := []api.Stmt{{Id: 1, Kind: api.SWhile, X: num(1)}}
	loop[0].Then = loop
	holdNoText(t, api.Program{Procs: []api.Proc{{Name: "p", Body: loop}}}, "a Then that contains itself")
	deep := []api.Stmt{{Id: 1, Kind: api.SBreak}}
	for range 300000 {
		deep = []api.Stmt{{Id: 1, Kind: api.SIf, X: num(1), Else: deep}}
	}
	holdNoText(t, api.Program{Procs: []api.Proc{{Name: "p", Body: deep}}}, "very deep statements")
}

// A program with one field changed is written exactly if it still may be, and is then read again.
func TestEachFieldChanged(t *testing.T) {
	good, bad := 0, 0
	hold := func(p api.Program, path string) {
		if tree.May(p) {
			good++
			holdReadAgain(t, p)
		} else {
			bad++
			holdNoText(t, p, "changed at "+path)
		}
	}
	p := ordinary()
	within(&p, func(path string, v reflect.Value) {
		was := reflect.New(v.Type()).Elem()
		was.Set(v)
		switch v.Kind() {
		case reflect.String:
			for _, s := range []string{"", "a", "abcdefgh", "abcdefghi", "while", "Z", "a b", "a;"} {
				v.SetString(s)
				hold(p, path)
			}
		case reflect.Int, reflect.Int64:
			for _, n := range []int64{math.MinInt64, -1, 0, 1, 2, 3, 4, 5, 7, 8, 11, 17, 18, math.MaxInt64} {
				v.SetInt(n)
				hold(p, path)
			}
		case reflect.Bool:
			v.SetBool(!v.Bool())
			hold(p, path)
		case reflect.Slice:
			v.SetZero()
			hold(p, path)
			v.Set(reflect.MakeSlice(v.Type(), 1, 1))
			hold(p, path)
			if was.Len() > 0 {
				v.Set(reflect.AppendSlice(was, was))
				hold(p, path)
			}
		}
		v.Set(was)
	})
	if good < 100 || bad < 1000 {
		t.Errorf("%d changed programs are well-formed, %d are not", good, bad)
	}
	holdText(t, p, ordinaryText)
}

func TestTheGreatestPrograms(t *testing.T) {
	names := slices.Repeat([]string{"abcdefgh"}, 16)
	wide := strings.TrimSuffix(strings.Repeat("abcdefgh, ", 16), ", ")
	holdText(t, api.Program{Globals: names, Procs: slices.Repeat([]api.Proc{{Name: "p", Params: slices.Repeat([]api.Param{{Name: "a", Ref: true}}, 8), Vars: names}}, 16)},
		"global "+wide+";\n"+strings.Repeat("proc p(ref a, ref a, ref a, ref a, ref a, ref a, ref a, ref a) {\n var "+wide+";\n}\n", 16))
	holdText(t, body(slices.Repeat([]api.Stmt{{Kind: api.SBreak}}, 200)...), lines("proc p() {", strings.Repeat(" break;\n", 200)+"}"))
	holdText(t, body(slices.Repeat([]api.Stmt{{Kind: api.SAssign, Labels: []string{"l"}, Name: "a", X: num(most)}}, 200)...), lines("proc p() {", strings.Repeat(" l: a = 9223372036854775807;\n", 200)+"}"))
}

func TestProgramsOfMoreTokensThanMayBeRead(t *testing.T) {
	call := func(n int) api.Program {
		return body(api.Stmt{Kind: api.SCall, Proc: "f", Args: slices.Repeat([]api.Arg{{X: name("a")}}, n)})
	}
	want := func(n int) string {
		return lines("proc p() {", " f(a"+strings.Repeat(", a", n-1)+");", "}")
	}
	// A call of n arguments has 2 * n + 9 tokens with the procedure around it.
	holdText(t, call(995), want(995))
	full := call(995)
	full.Procs[0].Body[0].Args[0].X = one(api.XNeg, name("a"))
	holdText(t, full, strings.Replace(want(995), "(a", "(-a", 1))
	if n, ok := tokens(Text(full)); n != api.MaxTokens || !ok {
		t.Errorf("a call of 995 arguments and a sign has %d tokens", n)
	}
	for _, n := range []int{996, 1000, 60000} {
		p := call(n)
		if got := Text(p); got != want(n) {
			t.Errorf("P5.2: Text of a call of %d arguments = %q", n, short(got))
		}
		if _, fault := parse.Parse(Text(p)); fault.Code != api.ErrLimit {
			t.Errorf("parse.Parse of a call of %d arguments has the fault %v", n, fault)
		}
	}
	labels := slices.Repeat([]string{"abcdefgh"}, 200000)
	if got := Text(api.Program{Procs: []api.Proc{{Name: "p", Body: []api.Stmt{{Id: 1, Kind: api.SBreak, Labels: labels}}, End: labels}}}); got != lines("proc p() {", " "+strings.Repeat("abcdefgh: ", 200000)+"break;", strings.Repeat("abcdefgh: ", 200000)+"}") {
		t.Errorf("P5.2: Text of a program of many labels = %q", short(got))
	}
}

func TestArgumentsStayAsTheyAre(t *testing.T) {
	p := roomy(ordinary())
	before := snapshot(p)
	holdText(t, p, ordinaryText)
	if !reflect.DeepEqual(snapshot(p), before) {
		t.Errorf("P0.3: Text changes its argument")
	}
	plain := two(api.XMul, two(api.XAdd, name("a"), num(1)), one(api.XNot, name("b")))
	x := roomy(plain)
	was := snapshot(x)
	holdExpr(t, x, "(a + 1) * !b")
	if !reflect.DeepEqual(snapshot(x), was) {
		t.Errorf("P0.3: Expr changes its argument")
	}
	holdText(t, empties(ordinary(), true), ordinaryText)
	holdText(t, empties(ordinary(), false), ordinaryText)
	holdExpr(t, empties(plain, true), "(a + 1) * !b")
	holdExpr(t, empties(plain, false), "(a + 1) * !b")
}

func TestResultsAreFresh(t *testing.T) {
	s := strings.Clone("abcdefgh")
	for _, x := range []api.Expr{name(s), one(api.XNeg, name(s)), two(api.XAdd, name(s), num(1)), num(0), num(7), num(99), num(100), num(most)} {
		first, second := Expr(x), Expr(x)
		if meets(first, s) || meets(first, second) {
			t.Errorf("P0.3: the text %q shares memory with an argument or with another result", first)
		}
	}
	p := api.Program{Globals: []string{s}, Procs: []api.Proc{{Name: s, End: []string{s}}}}
	first, second := Text(p), Text(p)
	if meets(first, s) || meets(first, second) || first != second {
		t.Errorf("P0.3: the text %q shares memory with an argument or with another result", first)
	}
}
