package arity

import (
	"fmt"
	"reflect"
	"slices"
	"strconv"
	"strings"
	"testing"

	"whittler/api"
	"whittler/lex"
	"whittler/parse"
	"whittler/print"
	"whittler/scope"
	"whittler/tree"
)

func num(n int64) api.Expr { return api.Expr{Op: api.XNumber, N: n} }

func name(s string) api.Expr { return api.Expr{Op: api.XName, Name: s} }

func one(op int, x api.Expr) api.Expr { return api.Expr{Op: op, Kids: []api.Expr{x}} }

func two(op int, x, y api.Expr) api.Expr { return api.Expr{Op: op, Kids: []api.Expr{x, y}} }

func ref(s string) api.Arg { return api.Arg{Ref: true, Name: s} }

func val(x api.Expr) api.Arg { return api.Arg{X: x} }

func call(proc string, args ...api.Arg) api.Stmt {
	return api.Stmt{Kind: api.SCall, Proc: proc, Args: args}
}

// params answers one parameter for each letter of a row: r by reference, v by value.
func params(row string) []api.Param {
	var out []api.Param
	for i, c := range row {
		out = append(out, api.Param{Name: "p" + strconv.Itoa(i), Ref: c == 'r'})
	}
	return out
}

// args answers one argument for each letter of a row, all of them of the variable s.
func args(row, s string) []api.Arg {
	var out []api.Arg
	for _, c := range row {
		if c == 'r' {
			out = append(out, ref(s))
		} else {
			out = append(out, val(name(s)))
		}
	}
	return out
}

// rows answers all rows of at most n letters r and v.
func rows(n int) []string {
	out := []string{""}
	for from := 0; n > 0; n-- {
		to := len(out)
		for _, row := range out[from:to] {
			out = append(out, row+"r", row+"v")
		}
		from = to
	}
	return out
}

// read answers the program of a text.
func read(t *testing.T, text string) api.Program {
	t.Helper()
	p, fault := parse.Parse(text)
	if fault != (api.Fault{}) {
		t.Fatalf("parse.Parse(%q) has the fault %v", text, fault)
	}
	return p
}

// short tells x, cut to what a message can show.
func short(x any) string {
	text := fmt.Sprintf("%+v", x)
	return text[:min(len(text), 1500)]
}

// wrong is the fault of the call with an id.
func wrong(id int) api.Fault { return api.Fault{Code: api.ErrArity, At: id} }

func holdCheck(t *testing.T, p api.Program, want api.Fault) {
	t.Helper()
	if got := Check(p); got != want {
		t.Errorf("P7.1: Check(%s) = %v; want %v", short(p), got, want)
	}
}

func holdFits(t *testing.T, p api.Program, s api.Stmt, want bool) {
	t.Helper()
	if got := Fits(p, s); got != want {
		t.Errorf("P7.1: Fits(%s, %s) = %v; want %v", short(p), short(s), got, want)
	}
}

// holdNothing holds what is answered for a program for which scope.Check returns a fault.
func holdNothing(t *testing.T, p api.Program, what string) {
	t.Helper()
	if scope.Check(p) == (api.Fault{}) {
		t.Errorf("P6.2: a program has no fault, %s", what)
	}
	if got := Check(p); got != (api.Fault{Code: api.ErrForm}) {
		t.Errorf("P7.1: Check of a program with a fault, %s, = %v", what, got)
	}
	for _, proc := range []string{"main", "f", "k", "p", ""} {
		for _, row := range []string{"", "v", "r", "rv"} {
			if Fits(p, call(proc, args(row, "x")...)) {
				t.Errorf("P7.1: something fits in a program with a fault, %s", what)
			}
		}
	}
	for _, proc := range p.Procs[:min(len(p.Procs), 16)] {
		if len(proc.Params) < 100 && Fits(p, api.Stmt{Kind: api.SCall, Proc: proc.Name, Args: sameArgs(proc.Params)}) {
			t.Errorf("P7.1: a call of %q fits in a program with a fault, %s", proc.Name, what)
		}
	}
}

// sameArgs answers arguments that fit some parameters.
func sameArgs(params []api.Param) []api.Arg {
	var out []api.Arg
	for _, param := range params {
		out = append(out, api.Arg{Ref: param.Ref, Name: map[bool]string{true: "g"}[param.Ref], X: map[bool]api.Expr{false: num(1)}[param.Ref]})
	}
	return out
}

// wantedFit takes from the texts of a call and of a procedure what stands ahead of each comma.
func wantedFit(t *testing.T, p api.Program, s api.Stmt) bool {
	t.Helper()
	at := slices.IndexFunc(p.Procs, func(proc api.Proc) bool { return proc.Name == s.Proc })
	if s.Kind != api.SCall || at < 0 {
		return false
	}
	s.Id, s.Labels, s.Name = 1, nil, ""
	head := api.Proc{Name: s.Proc, Params: p.Procs[at].Params}
	body := api.Proc{Name: "z", Body: []api.Stmt{s}}
	return inBrackets(t, api.Program{Procs: []api.Proc{head}}, 2) == inBrackets(t, api.Program{Procs: []api.Proc{body}}, 6)
}

// inBrackets answers an r or a v for each thing in the brackets that begin at a token of a program's text.
func inBrackets(t *testing.T, p api.Program, at int) string {
	t.Helper()
	tokens, fault := lex.All(print.Text(p))
	if fault != (api.Fault{}) || tokens[at].Text != "(" {
		t.Fatalf("the text %q has the fault %v", print.Text(p), fault)
	}
	row, depth := "", 1
	if tokens[at+1].Text == ")" {
		return row
	}
	for start := true; depth > 0; {
		at++
		text := tokens[at].Text
		if start {
			row += map[bool]string{true: "r", false: "v"}[text == "ref"]
		}
		start = depth == 1 && text == ","
		depth += strings.Count(text, "(") - strings.Count(text, ")")
	}
	return row
}

// wantedFault asks each id of a right program for what tree.Find answers.
func wantedFault(t *testing.T, p api.Program) api.Fault {
	t.Helper()
	for id := 1; id <= tree.Count(p); id++ {
		if _, s, _ := tree.Find(p, id); s.Kind == api.SCall && !wantedFit(t, p, s) {
			return wrong(id)
		}
	}
	return api.Fault{}
}

// ordinary has a statement of each kind and a call of each kind; all of it is right.
func ordinary() api.Program {
	return api.Program{Globals: []string{"g", "h"}, Procs: []api.Proc{
		{Name: "main", Vars: []string{"x", "y"}, Body: []api.Stmt{
			{Id: 1, Kind: api.SRead, Labels: []string{"l"}, Name: "x"},
			{Id: 2, Kind: api.SIf, Labels: []string{"m", "n"}, X: two(api.XLess, name("x"), num(7)), Then: []api.Stmt{
				{Id: 3, Kind: api.SWhile, X: name("y"), Then: []api.Stmt{
					{Id: 4, Kind: api.SBreak},
					{Id: 5, Kind: api.SContinue, Labels: []string{"o"}},
				}},
				{Id: 6, Kind: api.SPrint, X: one(api.XNeg, two(api.XAdd, name("x"), name("g")))},
			}, Else: []api.Stmt{
				{Id: 7, Kind: api.SGoto, Name: "e"},
				{Id: 8, Kind: api.SCall, Proc: "f", Args: []api.Arg{ref("h"), val(num(3))}},
			}},
			{Id: 9, Kind: api.SCall, Name: "y", Proc: "f", Args: []api.Arg{ref("x"), val(two(api.XMul, num(2), name("h")))}},
			{Id: 10, Kind: api.SCall, Proc: "k", Labels: []string{"q"}},
		}, End: []string{"e", "end"}},
		{Name: "f", Params: []api.Param{{Name: "a", Ref: true}, {Name: "b"}}, Vars: []string{"v"}, Body: []api.Stmt{
			{Id: 11, Kind: api.SAssign, Name: "a", X: name("b")},
			{Id: 12, Kind: api.SCall, Name: "b", Proc: "f", Args: []api.Arg{ref("a"), val(name("a"))}},
			{Id: 13, Kind: api.SReturn, Has: true, X: two(api.XOr, name("v"), num(0))},
		}},
		{Name: "k", Body: []api.Stmt{{Id: 14, Kind: api.SReturn}}},
	}}
}

// visit calls do for v and for each field and element in it.
func visit(v reflect.Value, path string, do func(path string, v reflect.Value)) {
	do(path, v)
	switch v.Kind() {
	case reflect.Struct:
		for i := range v.NumField() {
			visit(v.Field(i), path+"."+v.Type().Field(i).Name, do)
		}
	case reflect.Slice:
		for i := range v.Len() {
			visit(v.Index(i), path+"["+strconv.Itoa(i)+"]", do)
		}
	}
}

// within calls do for each place of what x points to.
func within(x any, do func(path string, v reflect.Value)) {
	visit(reflect.ValueOf(x).Elem(), "", do)
}

// copied answers a deep copy of v that shares no slice with it, with the slices' unused room as elements.
func copied(v reflect.Value) reflect.Value {
	out := reflect.New(v.Type()).Elem()
	out.Set(v)
	switch v.Kind() {
	case reflect.Struct:
		for i := range v.NumField() {
			out.Field(i).Set(copied(v.Field(i)))
		}
	case reflect.Slice:
		all := v.Slice(0, v.Cap())
		out.Set(reflect.MakeSlice(v.Type(), all.Len(), all.Len()))
		for i := range all.Len() {
			out.Index(i).Set(copied(all.Index(i)))
		}
	}
	return out
}

func snapshot[T any](x T) T { return copied(reflect.ValueOf(&x).Elem()).Interface().(T) }

// roomy answers x with room of one more element behind each slice, which holds what the first element holds.
func roomy[T any](x T) T {
	x = snapshot(x)
	within(&x, func(_ string, v reflect.Value) {
		if v.Kind() != reflect.Slice {
			return
		}
		spare := reflect.New(v.Type().Elem()).Elem()
		if v.Len() > 0 {
			spare.Set(copied(v.Index(0)))
		}
		v.Set(reflect.Append(v, spare).Slice(0, v.Len()))
	})
	return x
}

// empties lays an empty slice, or nil, wherever x has a slice without elements.
func empties[T any](x T, asNil bool) T {
	x = snapshot(x)
	within(&x, func(_ string, v reflect.Value) {
		if v.Kind() == reflect.Slice && v.Len() == 0 {
			if asNil {
				v.SetZero()
			} else {
				v.Set(reflect.MakeSlice(v.Type(), 0, 0))
			}
		}
	})
	return x
}
