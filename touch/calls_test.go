package touch

import (
	"slices"
	"strconv"
	"strings"
	"testing"

	"whittler/api"
	"whittler/tree"
)

func TestExampleOfTheChapter(t *testing.T) {
	p := read(t, "global g, h, i, j, k; proc main() { var x; c(); b(g); b(1); while (h) { x = c(); } } proc c() { read j; } proc b(v) { if (0) { d(ref i); } b(v); } proc d(ref w) { w = k; }")
	holdCalls(t, p, "main", "b", "c")
	holdReached(t, p, "main", "b", "c", "d", "main")
	holdGlobals(t, p, "b", "i", "k")
	hold(t, p, "main", "b c", "b c d main", "g h i j k")
	hold(t, p, "c", "", "c", "j")
	hold(t, p, "b", "b d", "b d", "i k")
	hold(t, p, "d", "", "d", "k")
	holdAll(t, p)
}

func TestOrdinaryProgram(t *testing.T) {
	p := ordinary()
	hold(t, p, "main", "f k", "b f k main", "g h i j z")
	hold(t, p, "f", "b", "b f", "j")
	hold(t, p, "k", "", "k", "")
	hold(t, p, "b", "", "b", "")
	holdAll(t, p)
}

func TestProceduresThatDoNotExist(t *testing.T) {
	for _, p := range []api.Program{
		ordinary(),
		read(t, "global g; proc main() { var x; l: x = f(g); } proc f(a) { f(a); }"),
		read(t, "proc main() { }"),
		// A call of it would be a fault.
		read(t, "global c; proc main() { var d; d = c; e: goto e; }"),
	} {
		for _, s := range []string{"", "g", "h", "x", "l", "e", "a", "c", "d", "ff", "kk", "F", "mai", "main ", " main", "main\x00", "Main", "mainmain", "\x00", "\xff\xfe", "while", "proc", "$ret", "1", strings.Repeat("f", 100000)} {
			hold(t, p, s, "", "", "")
		}
	}
}

// The procedures around the statements of the tests of calls.
const around = " proc a() { } proc b(v) { a(); } proc c(ref v) { } proc d() { b(2); }"

func TestCalls(t *testing.T) {
	for _, c := range []struct{ text, want string }{
		{"", ""},
		{"x = 1; read x; print x; if (x) { } while (x) { } return; goto l; l:", ""},
		{"a();", "a"},
		{"x = a();", "a"},
		{"b(1);", "b"},
		{"c(ref x);", "c"},
		{"x = c(ref x);", "c"},
		{"l: a(); goto l;", "a"},
		// Each once, in ascending order.
		{"a(); a();", "a"},
		{"a(); x = a(); a();", "a"},
		{"a(); b(1); c(ref x); d();", "a b c d"},
		{"d(); c(ref x); b(1); a();", "a b c d"},
		{"d(); x = a(); d(); a(); d();", "a d"},
		{"b(1); d(); x = b(2);", "b d"},
		// In statements.
		{"if (1) { a(); }", "a"},
		{"if (1) { } else { a(); }", "a"},
		{"if (1) { b(1); } else { a(); }", "a b"},
		{"if (1) { b(1); } else { b(2); } b(3);", "b"},
		{"while (1) { a(); }", "a"},
		{"while (0) { x = a(); b(x); }", "a b"},
		{"while (1) { while (2) { d(); } c(ref x); } a();", "a c d"},
		{"while (1) { if (2) { while (3) { if (4) { } else { a(); } } } else { d(); } }", "a d"},
		{"if (1) { if (2) { } else { if (3) { d(); } } } else { while (4) { b(1); } } ", "b d"},
		// Behind what never goes on.
		{"return; a();", "a"},
		{"goto l; a(); l:", "a"},
		{"while (1) { break; a(); continue; b(1); } c(ref x);", "a b c"},
		// What a call hands in is not called, what is named like a procedure neither.
		{"b(y);", "b"},
		{"y = b(y + x * -y); c(ref y);", "b c"},
		{"a: goto a; d: print 1; goto d; goto c; c:", ""},
	} {
		p := read(t, "proc main() { var x, y; "+c.text+" }"+around)
		holdCalls(t, p, "main", strings.Fields(c.want)...)
		holdAll(t, p)
		p = read(t, "global g; proc e() { var x, y; "+c.text+" } proc main() { d(); }"+around)
		holdCalls(t, p, "e", strings.Fields(c.want)...)
		holdCalls(t, p, "main", "d")
		holdAll(t, p)
	}
}

// Names of variables, of labels and of procedures are each for themselves.
func TestNamesThatAreProceduresToo(t *testing.T) {
	p := read(t, "global a; proc main() { var b; a = 1; read b; print a + b; c: if (a) { goto c; } goto d; main: e(ref a); d: } proc a() { } proc b() { } proc c() { } proc d() { } proc e(ref main) { var e; e = main; }")
	hold(t, p, "main", "e", "e main", "a")
	hold(t, p, "e", "", "e", "")
	hold(t, p, "a", "", "a", "")
	holdAll(t, p)
	p = read(t, "global a; proc main() { a(); } proc a() { var b; b = b(b, ref b); } proc b(b, ref c) { c(c); } proc c(c) { goto a; a: }")
	hold(t, p, "main", "a", "a b c main", "")
	hold(t, p, "a", "b", "a b c", "")
	hold(t, p, "b", "c", "b c", "")
	hold(t, p, "c", "", "c", "")
	holdAll(t, p)
}

// Whether a call hands in what is taken, and whether labels and jumps are right, is asked elsewhere.
func TestFaultsThatAreAskedElsewhere(t *testing.T) {
	p := read(t, "global g; proc main() { break; a(ref g, ref g); goto none; continue; a(); l: l: print 1; l: } proc a(v) { a(1, 2, 3); } ")
	hold(t, p, "main", "a", "a main", "g")
	hold(t, p, "a", "a", "a", "")
	holdAll(t, p)
}

func TestAscendingOrder(t *testing.T) {
	names := strings.Fields("zz b abcdefgh a0 a aa a9 z ab a1 a10 aaa azzzzzzz b0 ba")
	text, body := "global "+strings.Join(names, ", ")+"; ", ""
	for i, name := range names {
		text += "proc " + name + "() { " + names[(i+4)%len(names)] + "(); " + name + " = 1; " + names[(i+11)%len(names)] + "(); } "
		body += name + "(); "
	}
	p := read(t, text+"proc main() { "+body+"}")
	holdCalls(t, p, "main", strings.Fields("a a0 a1 a10 a9 aa aaa ab abcdefgh azzzzzzz b b0 ba z zz")...)
	holdReached(t, p, "main", strings.Fields("a a0 a1 a10 a9 aa aaa ab abcdefgh azzzzzzz b b0 ba main z zz")...)
	holdGlobals(t, p, "main", strings.Fields("a a0 a1 a10 a9 aa aaa ab abcdefgh azzzzzzz b b0 ba z zz")...)
	hold(t, p, "ab", "a azzzzzzz", "a a0 a1 a10 a9 aa aaa ab abcdefgh azzzzzzz b b0 ba z zz", "a a0 a1 a10 a9 aa aaa ab abcdefgh azzzzzzz b b0 ba z zz")
	hold(t, p, "zz", "a aaa", "a a0 a1 a10 a9 aa aaa ab abcdefgh azzzzzzz b b0 ba z zz", "a a0 a1 a10 a9 aa aaa ab abcdefgh azzzzzzz b b0 ba z zz")
	holdAll(t, p)
	// The first procedures, from the text's end on.
	p = read(t, "global e, d, c; proc main() { g(); f(); } proc g() { f(); } proc f() { e = d; h(); } proc h() { c = 1; }")
	hold(t, p, "main", "f g", "f g h main", "c d e")
	hold(t, p, "g", "f", "f g h", "c d e")
}

func TestWhoIsReached(t *testing.T) {
	for _, c := range []struct {
		text string
		want map[string]string // of each procedure: whom it calls, and whom it reaches
	}{
		// Nobody but itself, with a call of its own and without.
		{"proc main() { } proc a() { } proc b() { b(); }", map[string]string{"main": ": main", "a": ": a", "b": "b: b"}},
		// Itself is reached even if nobody calls it.
		{"proc main() { a(); } proc a() { }", map[string]string{"main": "a: a main", "a": ": a"}},
		// A ring.
		{"proc main() { } proc a() { b(); } proc b() { a(); }", map[string]string{"main": ": main", "a": "b: a b", "b": "a: a b"}},
		{"proc main() { b(); } proc a() { b(); } proc b() { c(); } proc c() { a(); }", map[string]string{"main": "b: a b c main", "a": "b: a b c", "b": "c: a b c", "c": "a: a b c"}},
		{"proc a() { e(); } proc b() { a(); } proc c() { b(); } proc d() { c(); } proc e() { d(); } proc main() { }", map[string]string{"main": ": main", "a": "e: a b c d e", "b": "a: a b c d e", "c": "b: a b c d e", "d": "c: a b c d e", "e": "d: a b c d e"}},
		// A ring with a way in and a way out.
		{"proc main() { x(); } proc x() { a(); } proc a() { b(); } proc b() { a(); y(); } proc y() { z(); } proc z() { }", map[string]string{"main": "x: a b main x y z", "x": "a: a b x y z", "a": "b: a b y z", "b": "a y: a b y z", "y": "z: y z", "z": ": z"}},
		// Two rings, of which one leads into the other one.
		{"proc main() { a(); } proc a() { b(); } proc b() { a(); c(); } proc c() { d(); } proc d() { c(); }", map[string]string{"main": "a: a b c d main", "a": "b: a b c d", "b": "a c: a b c d", "c": "d: c d", "d": "c: c d"}},
		// Two rings that meet in one procedure, and one in which one calls itself.
		{"proc main() { } proc a() { b(); c(); } proc b() { a(); } proc c() { a(); }", map[string]string{"main": ": main", "a": "b c: a b c", "b": "a: a b c", "c": "a: a b c"}},
		{"proc main() { a(); } proc a() { a(); b(); } proc b() { b(); a(); }", map[string]string{"main": "a: a b main", "a": "a b: a b", "b": "a b: a b"}},
		// A long chain, ahead and back.
		{"proc main() { a(); } proc a() { b(); } proc b() { c(); } proc c() { d(); } proc d() { e(); } proc e() { }", map[string]string{"main": "a: a b c d e main", "a": "b: a b c d e", "c": "d: c d e", "d": "e: d e", "e": ": e"}},
		{"proc e() { } proc d() { e(); } proc c() { d(); } proc b() { c(); } proc a() { b(); } proc main() { a(); }", map[string]string{"main": "a: a b c d e main", "a": "b: a b c d e", "c": "d: c d e", "d": "e: d e", "e": ": e"}},
		// Two ways to one.
		{"proc main() { a(); b(); } proc a() { c(); } proc b() { c(); } proc c() { d(); } proc d() { }", map[string]string{"main": "a b: a b c d main", "a": "c: a c d", "b": "c: b c d", "c": "d: c d", "d": ": d"}},
		{"proc main() { a(); d(); } proc a() { b(); } proc b() { d(); } proc d() { }", map[string]string{"main": "a d: a b d main", "a": "b: a b d", "b": "d: b d", "d": ": d"}},
		// One that nobody calls reaches others, and is reached by none.
		{"proc main() { a(); } proc a() { } proc u() { a(); u(); v(); } proc v() { }", map[string]string{"main": "a: a main", "a": ": a", "u": "a u v: a u v", "v": ": v"}},
		// In blocks, handing in things, and behind what never goes on.
		{"proc main() { var x; if (1) { } else { while (1) { x = a(1); } } } proc a(v) { return v; while (0) { b(ref v); } } proc b(ref r) { if (r) { c(); } } proc c() { }", map[string]string{"main": "a: a b c main", "a": "b: a b c", "b": "c: b c", "c": ": c"}},
	} {
		p := read(t, c.text)
		for proc, want := range c.want {
			calls, all, _ := strings.Cut(want, ":")
			hold(t, p, proc, calls, all, "")
		}
		holdAll(t, p)
	}
}

// A chain of as many procedures as may be, in several orders, and a ring of them.
func TestLongestChain(t *testing.T) {
	for step := 1; step < 16; step += 2 {
		for _, ring := range []bool{false, true} {
			p := api.Program{Procs: make([]api.Proc, 16)}
			for i := range 16 {
				nth := "p" + strconv.Itoa(10+i)
				f := api.Proc{Name: nth, Body: []api.Stmt{{Kind: api.SCall, Proc: "p" + strconv.Itoa(11+i)}}}
				if i == 0 {
					f.Name = "main"
				}
				if i == 15 {
					f.Body[0].Proc = "p11"
				}
				if i == 15 && !ring {
					f.Body = nil
				}
				p.Procs[i*step%16] = f
			}
			p = tree.Number(p)
			var all []string
			for i := 15; i > 0; i-- {
				nth := "p" + strconv.Itoa(10+i)
				all = append(all, nth)
				slices.Sort(all)
				if !ring {
					holdReached(t, p, nth, all...)
				}
			}
			holdReached(t, p, "main", append([]string{"main"}, all...)...)
			if ring {
				holdReached(t, p, "p17", all...)
			}
			holdAll(t, p)
		}
	}
}

// All ways in which four procedures can call one another.
func TestAllSmallGraphs(t *testing.T) {
	names := []string{"main", "b", "a", "c"}
	for bits := range 1 << 12 {
		p := api.Program{Globals: []string{"gc", "ga", "gb", "gmain"}}
		for i, name := range names {
			f := api.Proc{Name: name, Body: []api.Stmt{{Kind: api.SRead, Name: "g" + name}}}
			for j, called := range names[1:] {
				if bits>>(3*i+j)&1 == 1 {
					f.Body = append(f.Body, api.Stmt{Kind: api.SCall, Proc: called})
				}
			}
			p.Procs = append(p.Procs, f)
		}
		p = tree.Number(p)
		holdAll(t, p)
		for _, name := range names {
			var globals []string
			for _, f := range All(p, name) {
				globals = append(globals, "g"+f)
			}
			holdGlobals(t, p, name, globals...)
		}
	}
}

// A call is found at each place of many.
func TestEachPlaceOfMany(t *testing.T) {
	for id := 1; id <= 200; id++ {
		p := many()
		for i := range p.Procs {
			swap(p.Procs[i].Body, id, api.Stmt{Kind: api.SCall, Proc: "z"})
			swap(p.Procs[i].Body, id, api.Stmt{Kind: api.SCall, Proc: "z"})
		}
		_, s, _ := tree.Find(p, id)
		for i, f := range p.Procs[:8] {
			if s.Kind == api.SCall && i == (id-1)/25 {
				hold(t, p, f.Name, "z", f.Name+" z", "y")
			} else {
				hold(t, p, f.Name, "", f.Name, "")
			}
		}
	}
}

// many has eight procedures of 25 statements each, and behind them one of none that the tests can call.
func many() api.Program {
	p := api.Program{Globals: []string{"y"}}
	for _, s := range strings.Fields("a b c main d e f h") {
		loop := api.Stmt{Kind: api.SWhile, X: num(1), Then: []api.Stmt{{Kind: api.SBreak}, {Kind: api.SIf, X: num(1), Then: []api.Stmt{{Kind: api.SBreak}}, Else: []api.Stmt{{Kind: api.SContinue}}}}}
		p.Procs = append(p.Procs, api.Proc{Name: s, Body: slices.Repeat([]api.Stmt{loop}, 5)})
	}
	p.Procs[7].Body = p.Procs[7].Body[:4]
	p.Procs = append(p.Procs, api.Proc{Name: "z", Body: []api.Stmt{{Kind: api.SRead, Name: "y"}}})
	return tree.Number(p)
}

// swap lays s in the place of the statement with an id, unless others are in that one.
func swap(block []api.Stmt, id int, s api.Stmt) {
	for i := range block {
		if block[i].Id == id && len(block[i].Then) == 0 && block[i].Kind != api.SRead {
			s.Id = id
			block[i] = s
		}
		swap(block[i].Then, id, s)
		swap(block[i].Else, id, s)
	}
}

func TestDeepestStatements(t *testing.T) {
	for way := range 3 {
		s := api.Stmt{Kind: api.SCall, Name: "g", Proc: "f", Args: []api.Arg{{X: name("h")}}}
		for range 11 {
			switch way {
			case 0:
				s = api.Stmt{Kind: api.SIf, X: num(1), Then: []api.Stmt{s}}
			case 1:
				s = api.Stmt{Kind: api.SIf, X: num(1), Else: []api.Stmt{s}}
			default:
				s = api.Stmt{Kind: api.SWhile, X: num(1), Then: []api.Stmt{s}}
			}
		}
		p := tree.Number(api.Program{Globals: []string{"i", "h", "g"}, Procs: []api.Proc{{Name: "main", Body: []api.Stmt{s}}, {Name: "f", Params: []api.Param{{Name: "a"}}, Body: []api.Stmt{{Kind: api.SReturn}}}}})
		hold(t, p, "main", "f", "f main", "g h")
		hold(t, p, "f", "", "f", "")
		holdAll(t, p)
	}
}
