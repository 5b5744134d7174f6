package alias

import (
	"fmt"
	"reflect"
	"strconv"
	"testing"

	"whittler/api"
	"whittler/arity"
	"whittler/parse"
	"whittler/print"
	"whittler/tree"
)

func num(n int64) api.Expr { return api.Expr{Op: api.XNumber, N: n} }

func name(s string) api.Expr { return api.Expr{Op: api.XName, Name: s} }

func one(op int, x api.Expr) api.Expr { return api.Expr{Op: op, Kids: []api.Expr{x}} }

func two(op int, x, y api.Expr) api.Expr { return api.Expr{Op: op, Kids: []api.Expr{x, y}} }

func ref(s string) api.Arg { return api.Arg{Ref: true, Name: s} }

func val(x api.Expr) api.Arg { return api.Arg{X: x} }

func call(proc string, args ...api.Arg) api.Stmt {
	return api.Stmt{Kind: api.SCall, Proc: proc, Args: args}
}

// read answers the program of a text.
func read(t *testing.T, text string) api.Program {
	t.Helper()
	p, fault := parse.Parse(text)
	if fault != (api.Fault{}) {
		t.Fatalf("parse.Parse(%q) has the fault %v", text, fault)
	}
	return p
}

// short tells x, cut to what a message can show.
func short(x any) string {
	text := fmt.Sprintf("%+v", x)
	return text[:min(len(text), 1500)]
}

// wrong is the fault of the call with an id.
func wrong(id int) api.Fault { return api.Fault{Code: api.ErrAlias, At: id} }

func holdCheck(t *testing.T, p api.Program, want api.Fault) {
	t.Helper()
	if got := Check(p); got != want {
		t.Errorf("P10.1: Check = %v; want %v; of\n%s", got, want, print.Text(p))
	}
}

func holdFits(t *testing.T, p api.Program, s api.Stmt, want bool) {
	t.Helper()
	if got := Fits(p, s); got != want {
		t.Errorf("P10.1: Fits of %s = %v; want %v; in\n%s", short(s), got, want, print.Text(p))
	}
}

// holdCall holds whether a statement that is given as a text fits; its names need not be there.
func holdCall(t *testing.T, p api.Program, text string, want bool) {
	t.Helper()
	if got := Fits(p, stmt(t, text)); got != want {
		t.Errorf("P10.1: Fits of %s = %v; want %v; in\n%s", text, got, want, print.Text(p))
	}
}

// stmt answers the statement of a text.
func stmt(t *testing.T, text string) api.Stmt {
	t.Helper()
	return read(t, "proc z() { "+text+" }").Procs[0].Body[0]
}

// holdNothing holds what is answered for a program for which arity.Check returns a fault.
func holdNothing(t *testing.T, p api.Program, what string) {
	t.Helper()
	if arity.Check(p) == (api.Fault{}) {
		t.Errorf("P7.1: a program has no fault, %s", what)
	}
	if got := Check(p); got != (api.Fault{Code: api.ErrForm}) {
		t.Errorf("P10.1: Check of a program with a fault, %s, = %v", what, got)
	}
	for _, s := range []api.Stmt{
		{}, {Kind: api.SPrint, X: num(1)}, call("main"), call("f"), call("k"), call("d"), call("none"), call("f", val(num(1))), call("f", ref("x")), call("k", ref("i")),
		call("f", ref("x"), ref("y")), call("f", ref("x"), ref("x")), call("f", ref("x"), ref("y"), val(num(1))),
	} {
		if Fits(p, s) {
			t.Errorf("P10.1: %s fits in a program with a fault, %s", short(s), what)
		}
	}
	for _, proc := range p.Procs[:min(len(p.Procs), 16)] {
		if len(proc.Params) < 100 && Fits(p, fitting(proc)) {
			t.Errorf("P10.1: a call of %q fits in a program with a fault, %s", proc.Name, what)
		}
	}
	if !tree.May(p) {
		return
	}
	for id := 1; id <= tree.Count(p); id++ {
		if _, s, _ := tree.Find(p, id); Fits(p, s) {
			t.Errorf("P10.1: the statement %d fits in a program with a fault, %s", id, what)
		}
	}
}

// fitting answers a call of a procedure by which no variable gets a second name, if the program is right.
func fitting(proc api.Proc) api.Stmt {
	s := call(proc.Name)
	for i, param := range proc.Params {
		if param.Ref {
			s.Args = append(s.Args, ref("p"+strconv.Itoa(i)))
		} else {
			s.Args = append(s.Args, val(num(1)))
		}
	}
	return s
}

// ordinary has a statement of each kind, and globals handed in where nobody names them.
func ordinary() api.Program {
	return api.Program{Globals: []string{"g", "h", "i"}, Procs: []api.Proc{
		{Name: "main", Vars: []string{"x", "y"}, Body: []api.Stmt{
			{Id: 1, Kind: api.SRead, Labels: []string{"l"}, Name: "x"},
			{Id: 2, Kind: api.SIf, Labels: []string{"m", "n"}, X: two(api.XLess, name("x"), num(7)), Then: []api.Stmt{
				{Id: 3, Kind: api.SWhile, X: name("y"), Then: []api.Stmt{
					{Id: 4, Kind: api.SBreak},
					{Id: 5, Kind: api.SCall, Proc: "k", Labels: []string{"o"}, Args: []api.Arg{ref("i")}},
					{Id: 6, Kind: api.SContinue},
				}},
				{Id: 7, Kind: api.SPrint, X: one(api.XNeg, two(api.XAdd, name("x"), name("g")))},
			}, Else: []api.Stmt{
				{Id: 8, Kind: api.SGoto, Name: "l"},
				{Id: 9, Kind: api.SCall, Name: "h", Proc: "f", Args: []api.Arg{ref("x"), val(two(api.XMul, num(2), name("x"))), ref("i")}},
			}},
			{Id: 10, Kind: api.SCall, Name: "y", Proc: "f", Args: []api.Arg{ref("h"), val(name("y")), ref("x")}},
		}, End: []string{"e", "g"}},
		{Name: "f", Params: []api.Param{{Name: "a", Ref: true}, {Name: "c"}, {Name: "b", Ref: true}}, Vars: []string{"v"}, Body: []api.Stmt{
			{Id: 11, Kind: api.SAssign, Name: "a", X: name("c")},
			{Id: 12, Kind: api.SCall, Name: "v", Proc: "k", Args: []api.Arg{ref("b")}},
			{Id: 13, Kind: api.SCall, Proc: "d"},
			{Id: 14, Kind: api.SReturn, Has: true, X: two(api.XOr, name("v"), num(0))},
		}},
		{Name: "k", Params: []api.Param{{Name: "r", Ref: true}}, Body: []api.Stmt{{Id: 15, Kind: api.SReturn}}, End: []string{"e"}},
		{Name: "d", Body: []api.Stmt{{Id: 16, Kind: api.SRead, Name: "g"}}},
	}}
}

// visit calls do for v and for each field and element in it.
func visit(v reflect.Value, path string, do func(path string, v reflect.Value)) {
	do(path, v)
	switch v.Kind() {
	case reflect.Struct:
		for i := range v.NumField() {
			visit(v.Field(i), path+"."+v.Type().Field(i).Name, do)
		}
	case reflect.Slice:
		for i := range v.Len() {
			visit(v.Index(i), path+"["+strconv.Itoa(i)+"]", do)
		}
	}
}

// within calls do for each place of what x points to.
func within(x any, do func(path string, v reflect.Value)) {
	visit(reflect.ValueOf(x).Elem(), "", do)
}

// copied answers a deep copy of v that shares no slice with it, with the slices' unused room as elements.
func copied(v reflect.Value) reflect.Value {
	out := reflect.New(v.Type()).Elem()
	out.Set(v)
	switch v.Kind() {
	case reflect.Struct:
		for i := range v.NumField() {
			out.Field(i).Set(copied(v.Field(i)))
		}
	case reflect.Slice:
		all := v.Slice(0, v.Cap())
		out.Set(reflect.MakeSlice(v.Type(), all.Len(), all.Len()))
		for i := range all.Len() {
			out.Index(i).Set(copied(all.Index(i)))
		}
	}
	return out
}

func snapshot[T any](x T) T { return copied(reflect.ValueOf(&x).Elem()).Interface().(T) }

// roomy answers x with room of one more element behind each slice, which holds what the first element holds.
func roomy[T any](x T) T {
	x = snapshot(x)
	within(&x, func(_ string, v reflect.Value) {
		if v.Kind() != reflect.Slice {
			return
		}
		spare := reflect.New(v.Type().Elem()).Elem()
		if v.Len() > 0 {
			spare.Set(copied(v.Index(0)))
		}
		v.Set(reflect.Append(v, spare).Slice(0, v.Len()))
	})
	return x
}

// empties lays an empty slice, or nil, wherever x has a slice without elements.
func empties[T any](x T, asNil bool) T {
	x = snapshot(x)
	within(&x, func(_ string, v reflect.Value) {
		if v.Kind() == reflect.Slice && v.Len() == 0 {
			if asNil {
				v.SetZero()
			} else {
				v.Set(reflect.MakeSlice(v.Type(), 0, 0))
			}
		}
	})
	return x
}
