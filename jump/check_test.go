package jump

import (
	"fmt"
	"math"
	"reflect"
	"slices"
	"strings"
	"testing"

	"whittler/api"
	"whittler/scope"
	"whittler/tree"
)

func TestExampleOfTheChapter(t *testing.T) {
	holdCheck(t, read(t, "proc main() { a: print 1; if (1) { a: print 2; } }"), fault(3))
}

func TestRightPrograms(t *testing.T) {
	holdAll(t, ordinary())
	holdCheck(t, ordinary(), api.Fault{})
	for _, text := range []string{
		"proc main() { }",
		"proc main() { a: }",
		"proc main() { a: b: c: }",
		"proc main() { a: b: print 1; c: d: print 2; e: f: }",
		"global g; proc main() { var x; x = g; read x; print x; if (x) { } else { } while (x) { } x = f(x); f(1); return x; return; } proc f(a) { }",
		// Jumps ahead, behind, to themselves, to the end, into blocks and out of them.
		"proc main() { goto a; a: }",
		"proc main() { a: goto a; }",
		"proc main() { a: print 1; goto a; }",
		"proc main() { goto a; a: print 1; }",
		"proc main() { goto a; if (1) { a: print 1; } }",
		"proc main() { goto a; if (1) { } else { a: print 1; } }",
		"proc main() { goto a; while (1) { while (2) { a: print 1; } } }",
		"proc main() { if (1) { goto a; goto b; } else { goto b; b: print 1; } a: print 2; }",
		"proc main() { if (1) { a: goto b; } else { b: goto a; } }",
		"proc main() { while (1) { goto a; } while (2) { a: print 1; } goto a; }",
		"proc main() { while (1) { goto a; goto b; } b: a: }",
		"proc main() { goto a; goto a; a: b: goto b; goto c; c: }",
		// Jumps in loops.
		"proc main() { while (1) { break; } while (1) { continue; } }",
		"proc main() { while (1) { break; break; continue; continue; break; } }",
		"proc main() { while (1) { if (2) { break; } else { continue; } } }",
		"proc main() { while (1) { if (2) { if (3) { } else { if (4) { continue; } break; } } } }",
		"proc main() { if (1) { while (2) { break; } } else { while (3) { continue; } } }",
		"proc main() { while (1) { while (2) { break; } continue; while (3) { } break; } }",
		"proc main() { a: while (1) { b: break; c: continue; } d: }",
		// One label may be in each procedure.
		"proc main() { a: print 1; b: } proc f() { b: print 2; a: goto a; goto b; } proc g() { goto a; goto b; a: b: }",
		// Labels, variables and procedures have their names each for themselves.
		"global g; proc main() { var x; g: print 1; x: print x; f: f(); main: goto g; goto x; goto f; goto main; } proc f() { f: goto f; }",
		// How much is handed in is asked elsewhere.
		"proc main() { f(1, 2); f(); } proc f(ref a) { f(1); }",
	} {
		p := read(t, text)
		holdCheck(t, p, api.Fault{})
		holdAll(t, p)
	}
}

func TestLabelsThatAreTwice(t *testing.T) {
	for _, c := range []struct {
		text string
		at   int
	}{
		// At a statement ahead.
		{"a: print 1; a: print 2;", 2},
		{"a: print 1; print 2; print 3; a: print 4; print 5;", 4},
		{"a: b: print 1; c: b: print 2;", 2},
		{"b: a: print 1; c: d: print 2; e: a: f: print 3;", 3},
		{"a: print 1; a: print 2; a: print 3;", 2},
		{"a: print 1; b: print 2; b: print 3; a: print 4;", 3},
		{"a: print 1; b: print 2; a: print 3; b: print 4;", 3},
		// In statements, and around them.
		{"a: if (1) { a: print 1; }", 2},
		{"a: if (1) { } else { a: print 1; }", 2},
		{"a: while (1) { a: print 1; }", 2},
		{"if (1) { a: print 1; } else { a: print 2; }", 3},
		{"if (1) { a: print 1; } a: print 2;", 3},
		{"if (1) { } else { a: print 1; } a: print 2;", 3},
		{"while (1) { a: print 1; } a: while (2) { }", 3},
		{"while (1) { if (2) { a: break; } } while (3) { if (4) { } else { a: break; } }", 6},
		{"if (1) { print 1; b: print 2; a: print 3; } else { a: print 4; b: print 5; }", 5},
		{"if (1) { if (2) { a: print 1; } else { b: print 2; } b: print 3; } else { a: print 4; }", 5},
		// At the statement itself.
		{"a: a: print 1;", 1},
		{"a: b: a: print 1;", 1},
		{"b: a: a: print 1;", 1},
		{"a: a: a: print 1;", 1},
		{"print 1; b: print 2; a: c: a: print 3; b: print 4;", 3},
		{"a: print 1; b: b: a: print 2;", 2},
		// At the end.
		{"a: a:", 0},
		{"a: b: a:", 0},
		{"b: a: a:", 0},
		{"a: print 1; a:", 0},
		{"b: a: print 1; c: print 2; d: a:", 0},
		{"if (1) { } else { while (2) { a: print 1; } } b: a:", 0},
		{"a: print 1; b: b:", 0},
		{"print 1; a: print 2; print 3; a: a:", 0},
		// Statements of all kinds.
		{"a: x = 1; a: x = 2;", 2},
		{"a: read x; a: read x;", 2},
		{"a: x = f(); a: f();", 2},
		{"a: if (1) { } a: while (1) { }", 2},
		{"while (1) { a: break; a: continue; }", 3},
		{"a: return; a: return 1;", 2},
		{"a: goto a; a: goto a;", 2},
	} {
		p := read(t, "proc main() { var x; "+c.text+" } proc f() { a: b: print 1; }")
		holdCheck(t, p, fault(c.at))
		holdAll(t, p)
		p = read(t, "proc f() { a: b: print 1; c: } proc main() { var x; "+c.text+" } proc g() { break; a: a: }")
		at := c.at
		if at > 0 {
			at++
		}
		holdCheck(t, p, fault(at))
		holdAll(t, p)
		// Were the statement ahead in another procedure alone, it would be right.
		holdCheck(t, read(t, "proc main() { a: b: c: print 1; a1: } proc f() { a: b: c: print 2; a1: } proc g() { a1: c: b: a: }"), api.Fault{})
	}
}

func TestJumpsWithoutALoop(t *testing.T) {
	for _, word := range []string{"break", "continue"} {
		for _, c := range []struct {
			text string
			at   int // 0 for none
		}{
			{"%s;", 1},
			{"print 1; %s; print 2;", 2},
			{"l: %s;", 1},
			{"if (1) { %s; }", 2},
			{"if (1) { } else { %s; }", 2},
			{"if (1) { if (2) { } else { print 1; if (3) { %s; } } }", 5},
			{"while (1) { } %s;", 2},
			{"while (1) { %s; } %s;", 3},
			{"%s; while (1) { %s; }", 1},
			{"while (1) { print 1; } if (2) { %s; } while (3) { }", 4},
			{"if (1) { while (2) { %s; } %s; }", 4},
			{"if (1) { while (2) { %s; } } else { %s; }", 4},
			// A jump back is no loop.
			{"l: print 1; %s; goto l;", 2},
			{"while (1) { %s; }", 0},
			{"while (1) { if (2) { %s; } }", 0},
			{"while (1) { if (2) { } else { %s; } }", 0},
			{"while (1) { if (2) { while (3) { if (4) { %s; } %s; } %s; } %s; }", 0},
			{"if (1) { while (2) { %s; } } else { while (3) { %s; } }", 0},
			{"while (1) { goto l; } while (2) { l: %s; }", 0},
		} {
			text := strings.ReplaceAll(c.text, "%s", word)
			want := api.Fault{}
			if c.at > 0 {
				want = fault(c.at)
			}
			p := read(t, "proc main() { "+text+" }")
			holdCheck(t, p, want)
			holdAll(t, p)
			// A loop around a call is none around the statements of the called procedure.
			p = read(t, "proc main() { while (1) { f(); } } proc f() { "+text+" } proc g() { while (1) { break; continue; } }")
			if c.at > 0 {
				want = fault(c.at + 2)
			}
			holdCheck(t, p, want)
			holdAll(t, p)
		}
	}
}

func TestJumpsToNowhere(t *testing.T) {
	for _, c := range []struct {
		text string
		at   int
	}{
		{"goto a;", 1},
		{"b: goto a; c:", 1},
		{"print 1; if (1) { } else { goto a; } goto b; b:", 3},
		{"goto b; goto a; b:", 2},
		{"goto a; goto b;", 1},
		{"while (1) { goto a; } aa: ab: print 1; x:", 2},
		// The other procedures of the programs have these.
		{"goto l;", 1},
		{"goto m;", 1},
		{"goto e;", 1},
		{"l: print 1; goto e; goto l;", 2},
		// Neither a variable nor a procedure is a label.
		{"goto x;", 1},
		{"goto g;", 1},
		{"goto main;", 1},
		{"goto f;", 1},
		{"x = 1; goto x;", 2},
	} {
		p := read(t, "global g; proc main() { var x; "+c.text+" } proc f() { l: print 1; if (1) { m: print 2; } e: } proc h() { goto l; l: }")
		holdCheck(t, p, fault(c.at))
		holdAll(t, p)
		p = read(t, "global g; proc f() { l: print 1; if (1) { m: goto l; goto e; } e: } proc main() { var x; "+c.text+" } proc h() { goto none; }")
		holdCheck(t, p, fault(c.at+4))
		holdAll(t, p)
	}
}

// Faults of each kind, two of them in one program: the first one is told.
func TestFirstOfSeveral(t *testing.T) {
	faults := []string{"break;", "continue;", "goto none;", "s: s: print 1;", "l: print 1;", "l: goto none;", "s: l: break;", "if (1) { break; } else { continue; }", "while (1) { goto none; break; }"}
	ids := []int{0, 0, 0, 0, 0, 0, 0, 1, 1}
	sizes := []int{1, 1, 1, 1, 1, 1, 1, 3, 3}
	for i, first := range faults {
		for j, second := range faults {
			for _, c := range []struct {
				frame string
				at    int
			}{
				{"l: print 1; %1 %2", 2},
				{"l: print 1; %1 l: %2", 2},
				{"l: print 1; if (1) { %1 } else { %2 }", 3},
				{"l: print 1; if (1) { while (2) { print 3; } %1 } %2", 5},
				{"l: print 1; %1 if (1) { %2 }", 2},
				{"l: print 1; %1 e: e:", 2},
				{"l: print 1; if (1) { } else { print 2; if (3) { } else { %1 } } l: l:", 5},
			} {
				text := strings.NewReplacer("%1", first, "%2", second).Replace(c.frame)
				p := read(t, "proc main() { "+text+" } proc f() { break; }")
				holdCheck(t, p, fault(c.at+ids[i]))
				holdAll(t, p)
			}
			// The end of a procedure is asked ahead of the next one, and behind its own statements.
			p := read(t, "proc main() { l: print 1; } proc f() { l: print 2; l: } proc g() { l: print 3; "+first+" }")
			holdCheck(t, p, fault(0))
			p = read(t, "proc f() { l: print 1; l1: "+first+" l: } proc main() { l: print 3; "+second+" l: }")
			holdCheck(t, p, fault(2+ids[i]))
			p = read(t, "proc f() { l: print 1; while (1) { while (2) { print 3; } } goto l; } proc main() { l: print 3; "+second+" l: } proc g() { l: print 3; "+first+" }")
			holdCheck(t, p, fault(7+ids[j]))
			if n := tree.Count(p); n != 7+sizes[i]+sizes[j] {
				t.Errorf("%d statements", n)
			}
		}
	}
}

// A statement with several faults has one, and one that is right by itself does not hide it.
func TestStatementsWithSeveralFaults(t *testing.T) {
	for _, text := range []string{"l: goto none;", "s: s: goto none;", "l: break;", "l: s: s: l: continue;", "l: goto l;", "s: l: s: if (1) { break; }", "s: s: while (1) { s: goto none; }"} {
		holdCheck(t, read(t, "proc main() { l: print 1; "+text+" print 2; }"), fault(2))
		holdCheck(t, read(t, "proc main() { l: print 1; if (1) { print 2; } else { "+text+" } print 2; e: e: }"), fault(4))
	}
}

func TestEachStatementOfMany(t *testing.T) {
	holdCheck(t, many(), api.Fault{})
	for id := 1; id <= 200; id++ {
		first := 1 + (id-1)/25*25
		for way := range 5 {
			p := many()
			for i := range p.Procs {
				body := p.Procs[i].Body
				switch way {
				case 0:
					lay(body, id, "l")
					lay(body, id, "l")
				case 1:
					lay(body, first, "l")
					lay(body, id, "l")
				case 2:
					// The first statement of the next procedure has nothing to do with it.
					lay(body, id, "l")
					lay(body, first+25, "l")
				default:
					swap(body, id, api.Stmt{Kind: api.SGoto, Name: "l"})
					if way == 4 {
						lay(body, first, "l")
					}
				}
			}
			if way != 2 && way != 4 {
				// What is behind it changes nothing.
				lay(p.Procs[7].Body, 200, "m")
				lay(p.Procs[7].Body, 200, "m")
			}
			_, s, _ := tree.Find(p, id)
			want := fault(id)
			switch {
			case way == 2 || way == 4:
				want = api.Fault{}
			case way == 3 && s.Kind != api.SGoto:
				want = fault(200) // what is behind it
			}
			holdCheck(t, p, want)
		}
	}
}

// swap lays s in the place of the statement with an id, unless others are in that one.
func swap(block []api.Stmt, id int, s api.Stmt) {
	for i := range block {
		if block[i].Id == id && len(block[i].Then) == 0 {
			s.Id = id
			block[i] = s
		}
		swap(block[i].Then, id, s)
		swap(block[i].Else, id, s)
	}
}

// Programs for which scope.Check tells a fault have that of the form alone, at 0, wherever the other
// fault is, and whether or not their labels are right.
func TestProgramsWithFaultsOfNames(t *testing.T) {
	for _, text := range []string{
		"", "global g;", "global main;", "proc f() { }", "proc k() { l: while (1) { break; } e: } proc f(a) { l: goto l; }", "proc main(a) { l: while (1) { print 1; } }", "proc main(ref a) { l: e: }",
		"global g, g; proc main() { l: while (1) { break; } }", "proc main() { l: } proc main() { e: }", "proc main() { l: while (1) { print 2; } } proc k() { e: } proc k() { e: }",
		"proc main() { var x, x; l: while (1) { continue; } e: }", "global g; proc main() { a: while (1) { continue; } } proc f(g) { l: }", "global g; proc main() { } proc k() { var g; l: while (1) { break; } }",
		"proc main() { a: while (2) { break; } } proc f(a, a) { l: }", "proc main() { } proc f(a) { var a; l: while (2) { break; } e: }",
		"proc main() { l: print x; while (1) { print 1; } }", "proc main() { l: while (1) { x = 1; } }", "proc main() { while (1) { l: read x; } e: }", "proc main() { while (x) { l: break; } }",
		"proc main() { l: f(x); while (1) { break; } } proc f(a) { e: }", "proc main() { l: f(ref x); } proc f(ref a) { }", "proc main() { l: x = f(1); } proc f(a) { }",
		"proc main() { l: none(); while (1) { break; } }", "proc main() { while (2) { l: none(1); } }", "proc main() { var k; l: k(); while (1) { break; } }", "proc main() { l: while (1) { main(); } }", "proc main() { l: k(); } proc k() { l: while (1) { main(); } e: }",
		// Faults of labels and jumps as well, ahead of the other fault and behind it.
		"proc main() { break; print x; }", "proc main() { print x; break; }", "proc main() { goto none; x = 1; }", "proc main() { l: print 1; l: print x; }", "proc main() { l: print x; l: print 1; l: }",
		"proc main() { l: l: } proc f(x, x) { }", "global g, g; proc main() { continue; }", "proc f() { break; }", "proc f() { goto x; } proc main() { f(x); }", "proc main() { l: l: } proc k() { main(); }",
	} {
		holdNothing(t, read(t, text), text)
	}
	holdNothing(t, api.Program{}, "empty")
}

func TestProgramsThatAreNotWellFormed(t *testing.T) {
	stop := api.Stmt{Kind: api.SReturn, Labels: []string{"l"}}
	main := api.Proc{Name: "main", Body: []api.Stmt{{Id: 1, Kind: api.SWhile, X: num(1), Labels: []string{"l"}, Then: []api.Stmt{{Id: 2, Kind: api.SBreak}}}}, End: []string{"e"}}
	of := func(stmts ...api.Stmt) api.Program {
		return tree.Number(api.Program{Procs: []api.Proc{{Name: "main", Vars: []string{"x"}, Body: []api.Stmt{{Kind: api.SWhile, X: num(1), Labels: []string{"l"}, Then: stmts}}}, {Name: "f", End: []string{"e"}}, {Name: "k"}}})
	}
	for what, p := range map[string]api.Program{
		"a bad global":             {Globals: []string{"a", "A"}, Procs: []api.Proc{main}},
		"17 globals":               {Globals: strings.Fields("a b c d e f g h i j k l m n o p q"), Procs: []api.Proc{main}},
		"17 procedures":            {Procs: append(slices.Repeat([]api.Proc{{Name: "f"}}, 16), main)},
		"9 parameters":             {Procs: []api.Proc{main, {Name: "f", Params: slices.Repeat([]api.Param{{Name: "a"}}, 9)}}},
		"17 variables":             {Procs: []api.Proc{main, {Name: "f", Vars: strings.Fields("a b c d e f g h i j k l m n o p q")}}},
		"a bad procedure":          {Procs: []api.Proc{main, {Name: ""}}},
		"a bad parameter":          {Procs: []api.Proc{main, {Name: "p", Params: []api.Param{{Name: "a"}, {Name: "if"}}}}},
		"a bad variable":           {Procs: []api.Proc{main, {Name: "k", Vars: []string{"abcdefghi"}}}},
		"a bad label at an end":    {Procs: []api.Proc{main, {Name: "k", End: []string{"e", "1"}}}},
		"an empty label at an end": {Procs: []api.Proc{main, {Name: "k", End: []string{"", "e"}}}},
		"a bad label":              of(api.Stmt{Kind: api.SBreak, Labels: []string{"e", "ref"}}),
		"an empty label":           of(api.Stmt{Kind: api.SBreak, Labels: []string{""}}),
		"a label too long":         of(api.Stmt{Kind: api.SBreak, Labels: []string{"abcdefghi"}}),
		"a bad jump":               of(api.Stmt{Kind: api.SGoto, Name: "L"}),
		"a jump to nothing":        of(api.Stmt{Kind: api.SGoto}),
		"a jump with an X":         of(api.Stmt{Kind: api.SGoto, Name: "l", X: num(1)}),
		"a break with a name":      of(api.Stmt{Kind: api.SBreak, Name: "l"}),
		"a loop with an Else":      of(api.Stmt{Kind: api.SWhile, X: num(1), Else: []api.Stmt{stop}}),
		"no kind":                  of(api.Stmt{}),
		"a kind too great":         of(stop, api.Stmt{Kind: 11}),
		"no id":                    {Procs: []api.Proc{{Name: "main", Body: []api.Stmt{{Kind: api.SWhile, X: num(1)}}}}},
		"an id too great":          {Procs: []api.Proc{main, {Name: "k", Body: []api.Stmt{{Id: 4, Kind: api.SReturn}}}}},
		"an id that is twice":      {Procs: []api.Proc{main, {Name: "k", Body: []api.Stmt{{Id: 2, Kind: api.SReturn}}}}},
		"201 statements":           of(slices.Repeat([]api.Stmt{{Kind: api.SBreak}}, 200)...),
		"201 faults":               of(slices.Repeat([]api.Stmt{stop}, 200)...),
		"a bad expression":         of(api.Stmt{Kind: api.SPrint, X: two(api.XAdd, num(1), num(-1))}),
		"a fault of names as well": {Globals: []string{"a", "a"}, Procs: []api.Proc{{Name: "f", Body: []api.Stmt{{Id: 2, Kind: api.SRead, Name: "z"}}}}},
		"a bad last procedure":     {Procs: []api.Proc{main, {Name: "f", Body: []api.Stmt{{Id: 3, Kind: api.SBreak}}}, {Name: "Q"}}},
	} {
		holdNothing(t, p, what)
	}
}

func TestTreesThatAreTooDeep(t *testing.T) {
	s := api.Stmt{Kind: api.SBreak}
	for range 12 {
		s = api.Stmt{Kind: api.SWhile, Labels: []string{"l"}, X: num(1), Then: []api.Stmt{s}}
	}
	holdNothing(t, tree.Number(api.Program{Procs: []api.Proc{{Name: "main", Body: []api.Stmt{s}}}}), "statements too deep")
	holdCheck(t, tree.Number(api.Program{Procs: []api.Proc{{Name: "main", Body: s.Then}}}), fault(2))
	x := num(1)
	for range 300000 {
		x = one(api.XNot, x)
	}
	holdNothing(t, tree.Number(api.Program{Procs: []api.Proc{{Name: "main", Body: []api.Stmt{{Kind: api.SPrint, Labels: []string{"l"}, X: x}}}}}), "an expression much too deep")
	block := []api.Stmt{{Id: 1, Kind: api.SWhile, X: num(1)}}
	for range 300000 {
		block = []api.Stmt{{Id: 1, Kind: api.SWhile, Labels: []string{"l"}, X: num(1), Then: block}}
	}
	holdNothing(t, api.Program{Procs: []api.Proc{{Name: "main", Body: block}}}, "statements much too deep")
	block = []api.Stmt{{Id: 1, Kind: api.SWhile, Labels: []string{"l"}, X: num(1)}}
	block[0].Then = block
	holdNothing(t, api.Program{Procs: []api.Proc{{Name: "main", Body: block}}}, "statements that contain themselves")
}

// A program with one field changed is asked exactly if its names still are right.
func TestEachFieldChanged(t *testing.T) {
	right, faults, bad := 0, 0, 0
	hold := func(p api.Program, path string) {
		if scope.Check(p) != (api.Fault{}) {
			bad++
			holdNothing(t, p, "changed at "+path)
			return
		}
		if wantedFault(t, p) == (api.Fault{}) {
			right++
		} else {
			faults++
		}
		holdAll(t, p)
	}
	p := ordinary()
	within(&p, func(path string, v reflect.Value) {
		was := reflect.New(v.Type()).Elem()
		was.Set(v)
		switch v.Kind() {
		case reflect.String:
			for _, s := range []string{"", "a", "b", "l", "e", "o", "q", "x", "f", "main", "end", "abcdefgh", "abcdefghi", "while", "Z"} {
				v.SetString(s)
				hold(p, path)
			}
		case reflect.Int, reflect.Int64:
			for _, n := range []int64{math.MinInt64, -1, 0, 1, 2, 3, 4, 7, 8, 11, 17, math.MaxInt64} {
				v.SetInt(n)
				hold(p, path)
			}
		case reflect.Bool:
			v.SetBool(!v.Bool())
			hold(p, path)
		case reflect.Slice:
			v.SetZero()
			hold(p, path)
			v.Set(reflect.MakeSlice(v.Type(), 1, 1))
			hold(p, path)
			if was.Len() > 0 {
				v.Set(was.Slice(0, was.Len()-1))
				hold(p, path)
				v.Set(reflect.AppendSlice(was.Slice3(0, was.Len(), was.Len()), was))
				hold(p, path)
			}
			if row, ok := was.Interface().([]string); ok {
				for _, s := range []string{"a", "l", "e", "o", "end"} {
					v.Set(reflect.ValueOf(append(slices.Clone(row), s)))
					hold(p, path)
				}
			}
		}
		v.Set(was)
	})
	if right < 300 || faults < 100 || bad < 700 {
		t.Errorf("%d changed programs are right, %d have a fault of labels or jumps, %d have another fault", right, faults, bad)
	}
}

func TestAllIsLeftAsItIs(t *testing.T) {
	p := roomy(ordinary())
	before := snapshot(p)
	ask := func() string {
		loop, ok := Loop(p, 4)
		at, found := At(p, "main", "e")
		return fmt.Sprint(Check(p), Labels(p, "main"), at, found, loop, ok)
	}
	for _, change := range []struct{ do, undo func() }{
		{func() {}, func() {}},
		{func() { p.Procs[0].End[0] = "l" }, func() { p.Procs[0].End[0] = "e" }},
		{func() { p.Procs[0].Body[1].Else[0].Name = "none" }, func() { p.Procs[0].Body[1].Else[0].Name = "e" }},
		{func() { p.Procs[1].Name = "main" }, func() { p.Procs[1].Name = "f" }},
		{func() { p.Globals[0] = "G" }, func() { p.Globals[0] = "g" }},
	} {
		was := ask()
		change.do()
		ask()
		change.undo()
		if got := ask(); got != was {
			t.Errorf("P0.5: is told %s and then %s", was, got)
		}
		if !reflect.DeepEqual(snapshot(p), before) {
			t.Errorf("P0.3: what is asked changes what it is given")
		}
	}
}

func TestNilAndEmptyAlike(t *testing.T) {
	for _, asNil := range []bool{true, false} {
		holdAll(t, empties(ordinary(), asNil))
		holdCheck(t, empties(ordinary(), asNil), api.Fault{})
		holdCheck(t, empties(read(t, "proc main() { k(); if (1) { } else { goto l; } } proc k() { l: }"), asNil), fault(3))
		holdCheck(t, empties(api.Program{}, asNil), api.Fault{Code: api.ErrForm})
		p := empties(read(t, "proc main() { print 1; }"), asNil)
		holdLabels(t, p, "main")
		holdNowhere(t, p, "main", "")
		holdLoop(t, p, 1, 0)
	}
}

// A call is answered alike however often it is made, and whatever was asked ahead of it.
func TestAnswersHangOnArgumentsAlone(t *testing.T) {
	texts := []string{"", "proc main() { l: while (1) { l: break; } }", "proc main() { while (1) { l: break; } e: }", "proc main() { e: break; l: }", "proc main() { l: l: print x; }", "proc f() { l: e: } proc main() { goto e; }"}
	tell := func(text string) string {
		p := read(t, text)
		loop, ok := Loop(p, 2)
		at, found := At(p, "main", "l")
		return fmt.Sprint(Check(p), Labels(p, "main"), at, found, loop, ok)
	}
	var first []string
	for _, text := range texts {
		first = append(first, tell(text))
	}
	for range 3 {
		for i := len(texts) - 1; i >= 0; i-- {
			if got := tell(texts[i]); got != first[i] {
				t.Errorf("P0.5: of %q is told %s and then %s", texts[i], first[i], got)
			}
		}
	}
}
