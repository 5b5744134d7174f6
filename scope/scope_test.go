package scope

import (
	"math"
	"reflect"
	"slices"
	"strings"
	"testing"

	"whittler/api"
	"whittler/tree"
)

func TestNumbersOfKinds(t *testing.T) {
	if None != 0 || Global != 1 || Value != 2 || Ref != 3 || Local != 4 {
		t.Errorf("P6.1: the kinds are %d, %d, %d, %d and %d", None, Global, Value, Ref, Local)
	}
}

func TestProc(t *testing.T) {
	p := ordinary()
	holdProc(t, p, "main", 0)
	holdProc(t, p, "f", 1)
	holdProc(t, p, "k", 2)
	// Neither a variable, a parameter, a global, a label nor anything like a name is a procedure.
	for _, s := range []string{"", "x", "a", "v", "g", "l", "e", "end", "Main", "mai", "mainx", " f", "f ", "F", "\xff", "while", "$in", strings.Repeat("f", 100000)} {
		holdProc(t, p, s, -1)
	}
	for _, s := range []string{"", "main", "f"} {
		holdProc(t, api.Program{}, s, -1)
		holdProc(t, api.Program{Globals: []string{"main", "f"}}, s, -1)
	}
}

func TestFirstOfSeveralProcedures(t *testing.T) {
	p := read(t, "proc f(a) { print 1; } proc g() { } proc f(ref a, b) { var c; print 2; } proc g() { var x; e: } proc f() { } proc main() { } proc main(m) { }")
	holdProc(t, p, "f", 0)
	holdProc(t, p, "g", 1)
	holdProc(t, p, "main", 5)
	holdKind(t, p, "f", "a", Value)
	holdKind(t, p, "f", "b", None)
	holdKind(t, p, "f", "c", None)
	holdKind(t, p, "g", "x", None)
	holdKind(t, p, "main", "m", None)
	holdVars(t, p, "f", "a")
	holdVars(t, p, "g")
	holdVars(t, p, "main")
}

func TestEachOfSixteenProcedures(t *testing.T) {
	p := api.Program{}
	for i := range 16 {
		s := string(rune('a' + i))
		p.Procs = append(p.Procs, api.Proc{Name: "p" + s, Vars: []string{s}, Body: []api.Stmt{{Kind: api.SRead, Name: s}}})
	}
	p = tree.Number(p)
	for i, proc := range p.Procs {
		holdProc(t, p, proc.Name, i)
		holdVars(t, p, proc.Name, proc.Vars[0])
		for j, other := range p.Procs {
			holdKind(t, p, proc.Name, other.Vars[0], map[bool]int{true: Local, false: None}[i == j])
		}
	}
}

func TestKind(t *testing.T) {
	p := ordinary()
	for _, c := range []struct {
		proc, name string
		want       int
	}{
		{"main", "g", Global}, {"main", "h", Global}, {"f", "g", Global}, {"f", "h", Global}, {"k", "g", Global},
		{"main", "x", Local}, {"main", "y", Local}, {"f", "v", Local},
		{"f", "a", Ref}, {"f", "b", Value},
		// What another procedure has is none.
		{"main", "a", None}, {"main", "b", None}, {"main", "v", None}, {"f", "x", None}, {"f", "y", None}, {"k", "a", None}, {"k", "x", None},
		// Procedures and labels are none.
		{"main", "main", None}, {"main", "f", None}, {"f", "f", None}, {"main", "k", None}, {"main", "l", None}, {"main", "m", None}, {"main", "e", None}, {"main", "end", None},
		// What is no name at all is none.
		{"main", "", None}, {"main", "gg", None}, {"main", "G", None}, {"main", "g ", None}, {"main", "$in", None}, {"main", "$ret", None}, {"main", "\x00", None}, {"f", strings.Repeat("a", 100000), None},
		// There is no such procedure.
		{"", "", None}, {"", "g", None}, {"g", "g", None}, {"x", "g", None}, {"l", "g", None}, {"F", "a", None}, {"ff", "a", None}, {"mai", "x", None},
	} {
		holdKind(t, p, c.proc, c.name, c.want)
	}
}

func TestKindOfProceduresAndLabelsThatAreMore(t *testing.T) {
	p := read(t, "global k, f; proc main() { var main, l; l: goto l; } proc f(ref g, m) { m: goto m; g: } proc g(f) { }")
	holdKind(t, p, "main", "main", Local)
	holdKind(t, p, "main", "l", Local)
	holdKind(t, p, "main", "f", Global)
	holdKind(t, p, "main", "g", None)
	holdKind(t, p, "f", "g", Ref)
	holdKind(t, p, "f", "m", Value)
	holdKind(t, p, "f", "main", None)
	holdKind(t, p, "g", "f", Value)
	holdKind(t, p, "g", "k", Global)
	holdKind(t, p, "k", "k", None)
}

func TestKindOfWhatIsSeveral(t *testing.T) {
	for _, c := range []struct {
		text string
		want int
	}{
		{"global a; proc f(a) { var a; }", Value},
		{"global a; proc f(ref a) { var a; }", Ref},
		{"global a; proc f(b) { var a; }", Local},
		{"global a; proc f(ref b) { var b; }", Global},
		{"global a; proc f(a) { }", Value},
		{"global a; proc f(ref a) { }", Ref},
		{"proc f(a) { var a; }", Value},
		{"proc f(ref a) { var a; }", Ref},
		{"proc f(a, ref a) { }", Value},
		{"proc f(ref a, a) { }", Ref},
		{"proc f(b, a, ref a, a) { var a; }", Value},
		{"proc f(ref b, ref a, a, ref a) { var a; }", Ref},
		{"global a, b; proc f(b, b, b, b, b, b, b, ref a) { var a; }", Ref},
		{"global b, b, a, a; proc f() { var b, b, b; }", Global},
		{"proc f() { var b, a, b, a; }", Local},
	} {
		holdKind(t, read(t, c.text), "f", "a", c.want)
	}
}

func TestVars(t *testing.T) {
	p := ordinary()
	holdVars(t, p, "main", "g", "h", "x", "y")
	holdVars(t, p, "f", "g", "h", "a", "b", "v")
	holdVars(t, p, "k", "g", "h")
	for _, s := range []string{"", "g", "x", "l", "F", "fk", "kk"} {
		holdVars(t, p, s)
	}
	holdVars(t, api.Program{}, "main")
	holdVars(t, api.Program{Globals: []string{"g"}}, "main")
	for _, c := range []struct{ text, want string }{
		{"proc f() { }", ""},
		{"proc f() { var c; c: goto d; d: }", "c"},
		{"proc f(b) { }", "b"},
		{"proc f(ref b, a) { var d, c; }", "b a d c"},
		{"global z; proc f() { }", "z"},
		{"global z; proc f() { var y; }", "z y"},
		{"global z; proc f(y) { }", "z y"},
		{"global z, y; proc f(ref x, w) { var v, u; }", "z y x w v u"},
		// What is there several times is told as often.
		{"global a, b, a; proc f(a, ref a) { var b, a; }", "a b a a a b a"},
		{"global a; proc main() { var x; } proc f(b) { var c; } proc g(d) { var e; }", "a b c"},
	} {
		holdVars(t, read(t, c.text), "f", strings.Fields(c.want)...)
	}
	full := api.Program{Globals: strings.Fields("a b c d e f g h i j k l m n o p"), Procs: []api.Proc{{Name: "f", Vars: strings.Fields("aa ab ac ad ae af ag ah ai aj ak al am an ao ap")}}}
	for _, s := range strings.Fields("pa pb pc pd pe pf pg ph") {
		full.Procs[0].Params = append(full.Procs[0].Params, api.Param{Name: s, Ref: s > "pc"})
	}
	holdVars(t, full, "f", strings.Fields("a b c d e f g h i j k l m n o p pa pb pc pd pe pf pg ph aa ab ac ad ae af ag ah ai aj ak al am an ao ap")...)
	for i, s := range Vars(full, "f") {
		want := Local
		if i < 16 {
			want = Global
		} else if i < 19 {
			want = Value
		} else if i < 24 {
			want = Ref
		}
		holdKind(t, full, "f", s, want)
	}
}

// lists answers all lists of at most n of some names.
func lists(n int, names ...string) [][]string {
	out := [][]string{nil}
	for from := 0; n > 0; n-- {
		to := len(out)
		for _, list := range out[from:to] {
			for _, s := range names {
				out = append(out, append(slices.Clone(list), s))
			}
		}
		from = to
	}
	return out
}

// A name with * is a parameter by reference.
func params(names []string) []api.Param {
	var out []api.Param
	for _, s := range names {
		out = append(out, api.Param{Name: strings.TrimPrefix(s, "*"), Ref: s[0] == '*'})
	}
	return out
}

func TestKindOfAllSmallHeads(t *testing.T) {
	for _, globals := range lists(2, "a", "b") {
		for _, vars := range lists(2, "a", "b") {
			for _, names := range lists(2, "a", "b", "*a", "*b") {
				p := api.Program{Globals: globals, Procs: []api.Proc{{Name: "p", Params: params(names), Vars: vars}}}
				row := strings.Join(slices.Concat(names, vars, globals), " ") + " "
				for _, s := range []string{"a", "b", "c", "p"} {
					want := None
					switch at := strings.Index(row, s+" "); {
					case at < 0:
					case at >= len(row)-2*len(globals):
						want = Global
					case at >= len(row)-2*len(globals)-2*len(vars):
						want = Local
					case at > 0 && row[at-1] == '*':
						want = Ref
					default:
						want = Value
					}
					holdKind(t, p, "p", s, want)
					holdKind(t, p, "q", s, None)
				}
				holdVars(t, p, "p", slices.Concat(globals, strings.Fields(strings.ReplaceAll(strings.Join(names, " "), "*", "")), vars)...)
			}
		}
	}
}

func TestProgramsThatAreNotWellFormed(t *testing.T) {
	stop := api.Stmt{Kind: api.SBreak}
	for what, p := range map[string]api.Program{
		"a bad global":             {Globals: []string{"a", "A"}, Procs: []api.Proc{{Name: "main"}}},
		"17 globals":               {Globals: slices.Repeat([]string{"g"}, 17), Procs: []api.Proc{{Name: "main"}}},
		"17 procedures":            {Procs: slices.Repeat([]api.Proc{{Name: "main"}}, 17)},
		"9 parameters":             {Procs: []api.Proc{{Name: "main"}, {Name: "f", Params: slices.Repeat([]api.Param{{Name: "a"}}, 9)}}},
		"17 variables":             {Procs: []api.Proc{{Name: "main", Vars: slices.Repeat([]string{"a"}, 17)}}},
		"a bad procedure":          {Globals: []string{"a"}, Procs: []api.Proc{{Name: "main"}, {Name: ""}}},
		"a bad parameter":          {Procs: []api.Proc{{Name: "main"}, {Name: "p", Params: []api.Param{{Name: "a"}, {Name: "if"}}}}},
		"a bad variable":           {Procs: []api.Proc{{Name: "main", Vars: []string{"a", "abcdefghi"}}}},
		"a bad label at an end":    {Procs: []api.Proc{{Name: "main", Vars: []string{"a"}, End: []string{"1"}}}},
		"a bad label":              body([]api.Stmt{{Kind: api.SBreak, Labels: []string{"ref"}}}),
		"a bad jump":               body([]api.Stmt{{Kind: api.SGoto, Name: "L"}}),
		"no kind":                  body([]api.Stmt{{}}),
		"a kind too great":         body([]api.Stmt{stop, {Kind: 11}}),
		"no id":                    {Procs: []api.Proc{{Name: "main", Vars: []string{"a"}, Body: []api.Stmt{stop}}}},
		"an id too great":          {Procs: []api.Proc{{Name: "main"}, {Name: "f", Body: []api.Stmt{{Id: 2, Kind: api.SBreak}}}}},
		"201 statements":           body(slices.Repeat([]api.Stmt{stop}, 201)),
		"a call without Proc":      body([]api.Stmt{{Kind: api.SCall}}),
		"an argument of nothing":   body([]api.Stmt{{Kind: api.SCall, Proc: "f", Args: []api.Arg{{}}}}, api.Proc{Name: "f"}),
		"a negative number":        body([]api.Stmt{{Kind: api.SPrint, X: num(-1)}}),
		"a name that is no name":   body([]api.Stmt{{Kind: api.SPrint, X: two(api.XAdd, name("a"), name("B"))}}),
		"a fault of names as well": {Globals: []string{"a", "a"}, Procs: []api.Proc{{Name: "f"}, {Name: "f", Body: []api.Stmt{{Id: 2, Kind: api.SRead, Name: "z"}}}}},
		"a bad last procedure":     {Globals: []string{"g"}, Procs: []api.Proc{{Name: "main"}, {Name: "f", Vars: []string{"a"}}, {Name: "Q"}}},
	} {
		holdNothing(t, p, what)
	}
}

func TestTreesThatAreTooDeep(t *testing.T) {
	x := name("a")
	for range 19 {
		x = one(api.XNeg, x)
	}
	holdCheck(t, body([]api.Stmt{{Kind: api.SPrint, X: x}}), wrong(1))
	holdNothing(t, body([]api.Stmt{{Kind: api.SPrint, X: one(api.XNeg, x)}}), "an expression too deep")
	for range 300000 {
		x = one(api.XNot, x)
	}
	holdNothing(t, body([]api.Stmt{{Kind: api.SPrint, X: x}}), "an expression much too deep")
	loop := two(api.XAdd, name("a"), name("a"))
	loop.Kids[1] = loop
	holdNothing(t, api.Program{Procs: []api.Proc{{Name: "main", Body: []api.Stmt{{Id: 1, Kind: api.SPrint, X: loop}}}}}, "an expression that contains itself")
	block := []api.Stmt{{Id: 1, Kind: api.SIf, X: num(1)}}
	for range 300000 {
		block = []api.Stmt{{Id: 1, Kind: api.SIf, X: num(1), Else: block}}
	}
	holdNothing(t, api.Program{Procs: []api.Proc{{Name: "main", Body: block}}}, "statements much too deep")
	block = []api.Stmt{{Id: 1, Kind: api.SWhile, X: num(1)}}
	block[0].Then = block
	holdNothing(t, api.Program{Procs: []api.Proc{{Name: "main", Body: block}}}, "statements that contain themselves")
}

// A program with one field changed is asked exactly if it still may be.
func TestEachFieldChanged(t *testing.T) {
	good, bad := 0, 0
	hold := func(p api.Program, path string) {
		if !tree.May(p) {
			bad++
			holdNothing(t, p, "changed at "+path)
			return
		}
		good++
		holdCheck(t, p, wantedFault(t, p))
		for i, proc := range p.Procs {
			holdProc(t, p, proc.Name, slices.IndexFunc(p.Procs[:i+1], func(other api.Proc) bool { return other.Name == proc.Name }))
		}
	}
	p := ordinary()
	within(&p, func(path string, v reflect.Value) {
		was := reflect.New(v.Type()).Elem()
		was.Set(v)
		switch v.Kind() {
		case reflect.String:
			for _, s := range []string{"", "a", "b", "g", "x", "v", "f", "main", "abcdefgh", "abcdefghi", "while", "Z", "a b"} {
				v.SetString(s)
				hold(p, path)
			}
		case reflect.Int, reflect.Int64:
			for _, n := range []int64{math.MinInt64, -1, 0, 1, 2, 3, 8, 11, 17, math.MaxInt64} {
				v.SetInt(n)
				hold(p, path)
			}
		case reflect.Bool:
			v.SetBool(!v.Bool())
			hold(p, path)
		case reflect.Slice:
			v.SetZero()
			hold(p, path)
			v.Set(reflect.MakeSlice(v.Type(), 1, 1))
			hold(p, path)
			if was.Len() > 0 {
				v.Set(reflect.AppendSlice(was, was))
				hold(p, path)
			}
		}
		v.Set(was)
	})
	if good < 300 || bad < 700 {
		t.Errorf("%d changed programs are well-formed, %d are not", good, bad)
	}
}

func TestArgumentsStayAsTheyAre(t *testing.T) {
	p := roomy(ordinary())
	before := snapshot(p)
	for _, s := range []string{"main", "f", "k", "none"} {
		Kind(p, s, "a")
		Vars(p, s)
		Proc(p, s)
	}
	Check(p)
	p.Procs[1].Body[0].Name = "zz"
	before.Procs[1].Body[0].Name = "zz"
	Check(p)
	if !reflect.DeepEqual(snapshot(p), before) {
		t.Errorf("P0.3: a program is changed by who asks it")
	}
}

func TestNilAndEmptyAreAlike(t *testing.T) {
	for _, asNil := range []bool{true, false} {
		p := empties(ordinary(), asNil)
		holdCheck(t, p, api.Fault{})
		holdProc(t, p, "f", 1)
		holdVars(t, p, "f", "g", "h", "a", "b", "v")
		holdKind(t, p, "k", "h", Global)
		none := empties(api.Program{}, asNil)
		holdCheck(t, none, wrong(0))
		holdProc(t, none, "main", -1)
		holdVars(t, none, "main")
		holdKind(t, none, "main", "a", None)
	}
}

func TestResultsAreFresh(t *testing.T) {
	p := roomy(ordinary())
	part(&p)
	before := snapshot(p)
	var all []span
	for range 2 {
		for _, s := range []string{"main", "f", "k"} {
			proc, _ := Proc(p, s)
			vars := Vars(p, s)
			all = slices.Concat(all, spans(proc), spans(vars))
			// Who writes into what is answered turns nothing of the program.
			within(&vars, scribble)
			within(&proc, scribble)
			_ = append(vars, "zz")
			_ = append(proc.Body, api.Stmt{})
			_ = append(proc.Vars, "zz")
			_ = append(proc.End, "zz")
			_ = append(proc.Params, api.Param{})
		}
	}
	holdApart(t, append(all, spans(p)...))
	if !reflect.DeepEqual(snapshot(p), before) {
		t.Errorf("P0.3: a program is changed through what is answered of it")
	}
	holdVars(t, p, "f", "g", "h", "a", "b", "v")
	holdProc(t, p, "f", 1)
}

// scribble writes something else into a field.
func scribble(_ string, v reflect.Value) {
	switch v.Kind() {
	case reflect.String:
		v.SetString("zz")
	case reflect.Int, reflect.Int64:
		v.SetInt(99)
	case reflect.Bool:
		v.SetBool(!v.Bool())
	}
}
