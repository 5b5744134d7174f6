package touch

import (
	"strings"
	"testing"

	"whittler/api"
	"whittler/tree"
)

// waysToName are statements of which each names the variable @, and no other global, in a place of its own.
var waysToName = []string{
	"@ = 1;", "read @;", "@ = @;",
	// In an expression of each kind of statement that has one.
	"x = @;", "print @;", "if (@) { }", "if (@) { x = 1; } else { x = 2; }", "while (@) { }", "while (@) { print x; }", "return @;",
	// In all places of an expression.
	"print -@;", "print !@;", "print @ + x;", "print x + @;", "print x * (1 + -(x / @));", "print 1 + (2 + (3 + (4 + (5 + @))));", "print ((((@ - 1) - 2) - 3) - 4) - x;", "if (x && (x || @ < 3)) { }",
	"print 1 * @;", "print 1 / @;", "print 1 % @;", "print 1 - @;", "print @ < 1;", "print @ <= 1;", "print @ > 1;", "print @ >= 1;", "print 0 == @;", "print 0 != @;", "print 0 && @;", "print 0 || @;",
	// As an argument, and in one.
	"f(ref @);", "v(@);", "v(-@);", "v(x * (x - @));", "k(@, ref x, 1);", "k(1, ref @, x);", "k(x, ref x, @);", "k(1, ref x, 2 + 3 * @);",
	// As what is given the value of a call.
	"@ = e();", "@ = f(ref x);", "@ = k(1, ref x, x);",
	// In statements, and behind what never goes on.
	"if (1) { @ = 1; }", "if (1) { } else { read @; }", "while (1) { print @; }", "while (0) { f(ref @); }", "if (1) { while (2) { if (3) { } else { v(@); } } }", "while (x) { if (@) { } }", "return; print @;", "goto m; @ = e(); m:",
	"while (1) { break; read @; }", "l: @ = 1; goto l;", "@ = 1; @ = 2; print @;", "x = x; f(ref @);",
}

// noWaysToName are statements of which none names it.
var noWaysToName = []string{
	"", "x = 1;", "read x; print x + -x;", "if (x) { } while (x) { }", "return;", "return x;", "e();", "x = e(); f(ref x); x = f(ref x); k(x, ref x, x);",
	// Where a label is, or a jump leads, is no variable.
	"@: print 1;", "@: x = 2; goto @;", "goto @; @:", "goto @; if (x) { @: read x; }", "while (x) { @: break; goto @; } @:", "@: @: @:", "goto @;",
}

const helpers = " proc e() { } proc f(ref r) { r = 1; } proc v(a) { print a; } proc k(a, ref b, c) { b = a + c; }"

func TestWaysToName(t *testing.T) {
	for i, way := range append(noWaysToName, waysToName...) {
		want := "g"
		if i < len(noWaysToName) {
			want = ""
		}
		way = strings.ReplaceAll(way, "@", "g")
		// In it, in one that it calls, in one that this one calls, and in one that it does not call.
		p := read(t, "global h, g, i; proc main() { var x; "+way+" }"+helpers)
		holdGlobals(t, p, "main", strings.Fields(want)...)
		holdGlobals(t, p, "k")
		holdAll(t, p)
		p = read(t, "global g, h; proc main() { a(h); } proc a(y) { b(); } proc u() { read h; a(1); } proc b() { var x; "+way+" } proc z() { e(); }"+helpers)
		holdGlobals(t, p, "main", strings.Fields(want+" h")...)
		holdGlobals(t, p, "a", strings.Fields(want)...)
		holdGlobals(t, p, "b", strings.Fields(want)...)
		holdGlobals(t, p, "u", strings.Fields(want+" h")...)
		holdGlobals(t, p, "z")
		holdAll(t, p)
		p = read(t, "global g; proc main() { a(); e(); } proc a() { } proc b() { var x; "+way+" }"+helpers)
		holdGlobals(t, p, "main")
		holdGlobals(t, p, "a")
		holdGlobals(t, p, "b", strings.Fields(want)...)
	}
}

// The same statements name no global where the name is that of a parameter or of a variable.
func TestWaysToNameOthers(t *testing.T) {
	for _, way := range append(noWaysToName, waysToName...) {
		for _, head := range []string{"(p) { var x; ", "(ref p) { var x; ", "(x) { var p; ", "(ref x, y) { var z, p; "} {
			p := read(t, "global g, h; proc main() { } proc a"+head+strings.ReplaceAll(way, "@", "p")+" }"+helpers)
			holdGlobals(t, p, "a")
			holdGlobals(t, p, "main")
			holdAll(t, p)
		}
	}
	// A variable of one procedure, a parameter of another one, and neither makes a global of it.
	p := read(t, "global g; proc main() { var x, y; x = 1; a(x, ref y); } proc a(y, ref z) { var x; x = y; y = z; b(); } proc b() { var z; z = 1; }")
	for _, proc := range []string{"main", "a", "b"} {
		holdGlobals(t, p, proc)
	}
}

func TestGlobals(t *testing.T) {
	for _, c := range []struct {
		text string
		want map[string]string
	}{
		// All, none, and those that are declared alone.
		{"global a, b, c; proc main() { a = b; read c; }", map[string]string{"main": "a b c"}},
		{"global a, b, c; proc main() { }", map[string]string{"main": ""}},
		{"proc main() { var x; x = 1; print x; }", map[string]string{"main": ""}},
		// Ascending, each once, in whatever order they are declared and named.
		{"global c, a, b; proc main() { b = c + a + b; }", map[string]string{"main": "a b c"}},
		{"global a, b, c; proc main() { c = 1; b = 1; a = 1; c = 2; b = c; }", map[string]string{"main": "a b c"}},
		{"global b; global a; proc main() { f(); print b; f(); } proc f() { print a; print b; }", map[string]string{"main": "a b", "f": "a b"}},
		// Of those that it calls, not of those that call it.
		{"global a, b, c; proc main() { a = 1; f(); } proc f() { b = 1; k(); } proc k() { c = 1; }", map[string]string{"main": "a b c", "f": "b c", "k": "c"}},
		{"global a, b, c; proc k() { c = 1; } proc f() { k(); b = 1; } proc main() { f(); a = 1; }", map[string]string{"main": "a b c", "f": "b c", "k": "c"}},
		// By way of procedures that name none.
		{"global a; proc main() { f(); } proc f() { k(); } proc k() { l(); } proc l() { a = 1; }", map[string]string{"main": "a", "f": "a", "k": "a", "l": "a"}},
		// In a ring all name what one of them names.
		{"global a, b, c, d; proc main() { d = 1; } proc f() { k(); a = 1; } proc k() { l(); b = 1; } proc l() { f(); c = 1; }", map[string]string{"main": "d", "f": "a b c", "k": "a b c", "l": "a b c"}},
		{"global a, b, c, d; proc main() { d = 1; f(); } proc f() { f(); k(); } proc k() { l(); b = 1; } proc l() { k(); c = a; }", map[string]string{"main": "a b c d", "f": "a b c", "k": "a b c", "l": "a b c"}},
		// By two ways.
		{"global a, b, c; proc main() { f(); k(); } proc f() { l(); print b; } proc k() { l(); print c; } proc l() { a = 1; }", map[string]string{"main": "a b c", "f": "a b", "k": "a c", "l": "a"}},
		// One that nobody calls.
		{"global a, b; proc main() { b = 1; } proc f() { a = 1; main2(); } proc main2() { }", map[string]string{"main": "b", "f": "a", "main2": ""}},
		// What a parameter stands for is named where it is handed in, and not in the procedure that has the parameter.
		{"global a, b; proc main() { f(ref a, b); } proc f(ref r, v) { r = v; k(ref r, v); } proc k(ref r, v) { read r; }", map[string]string{"main": "a b", "f": "", "k": ""}},
		// A call does not name the global that is called like its procedure.
		{"global f, main; proc main() { f(); } proc f() { main: f: goto main; }", map[string]string{"main": "", "f": ""}},
		{"global f, main; proc main() { f = f(f); } proc f(v) { print main; }", map[string]string{"main": "f main", "f": "main"}},
		// Names of which one begins as the other does.
		{"global a, aa, a1, b; proc main() { var aaa, ab; aaa = aa; ab = a1; f(); } proc f() { var a2; a2 = 1; b: goto b; }", map[string]string{"main": "a1 aa", "f": ""}},
	} {
		p := read(t, c.text)
		for proc, want := range c.want {
			holdGlobals(t, p, proc, strings.Fields(want)...)
		}
		holdAll(t, p)
	}
}

// Each statement of many names a global of its own, and is named by itself.
func TestGlobalsOfEachStatement(t *testing.T) {
	names := strings.Fields("p o n m l k j i h g f e d c b a")
	for way := range 4 {
		p := api.Program{Globals: names, Procs: []api.Proc{{Name: "main", Body: []api.Stmt{{Kind: api.SCall, Proc: "do"}}}, {Name: "do"}}}
		for n := range 17 {
			var stmts []api.Stmt
			for i := range n {
				s := api.Stmt{Kind: api.SRead, Name: names[i]}
				switch way {
				case 1:
					s = api.Stmt{Kind: api.SIf, X: num(1), Else: []api.Stmt{s}}
				case 2:
					s = api.Stmt{Kind: api.SWhile, X: api.Expr{Op: api.XName, Name: names[i]}}
				case 3:
					s = api.Stmt{Kind: api.SCall, Proc: "do", Args: []api.Arg{{Ref: true, Name: names[i]}}}
				}
				stmts = append(stmts, s)
			}
			p.Procs[1].Body = stmts
			p := tree.Number(p)
			want := strings.Fields("a b c d e f g h i j k l m n o p")[16-n:]
			holdGlobals(t, p, "main", want...)
			holdGlobals(t, p, "do", want...)
			holdGlobals(t, p, "a")
		}
	}
}

// There is no limit to how many arguments a call has, and hardly one to how great an expression is.
func TestVeryManyArguments(t *testing.T) {
	great := name("g")
	for range 15 {
		great = two(api.XAdd, great, great)
	}
	great = two(api.XAdd, great, name("a"))
	args := make([]api.Arg, 100000)
	for i := range args {
		args[i] = api.Arg{Ref: true, Name: "x"}
		if i%2 == 1 {
			args[i] = api.Arg{X: two(api.XMul, name("h"), name("y"))}
		}
	}
	args = append(args, api.Arg{X: great}, api.Arg{Ref: true, Name: "b"})
	p := read(t, "global h, g, c, b, a; proc main() { var x, y; f(1); f(2); } proc f(v) { while (v) { } }")
	p.Procs[0].Body[1].Args = args
	hold(t, p, "main", "f", "f main", "a b g h")
	hold(t, p, "f", "", "f", "")
	p.Procs[1].Body[0].X = two(api.XLess, great, name("c"))
	hold(t, p, "main", "f", "f main", "a b c g h")
	hold(t, p, "f", "", "f", "a c g")
}
