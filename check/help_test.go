package check

import (
	"cmp"
	"fmt"
	"reflect"
	"slices"
	"strconv"
	"testing"
	"unsafe"

	"whittler/api"
	"whittler/parse"
	"whittler/print"
	"whittler/tree"
)

func num(n int64) api.Expr { return api.Expr{Op: api.XNumber, N: n} }

func name(s string) api.Expr { return api.Expr{Op: api.XName, Name: s} }

func one(op int, x api.Expr) api.Expr { return api.Expr{Op: op, Kids: []api.Expr{x}} }

func two(op int, x, y api.Expr) api.Expr { return api.Expr{Op: op, Kids: []api.Expr{x, y}} }

func ref(s string) api.Arg { return api.Arg{Ref: true, Name: s} }

func val(x api.Expr) api.Arg { return api.Arg{X: x} }

func call(proc string, args ...api.Arg) api.Stmt {
	return api.Stmt{Kind: api.SCall, Proc: proc, Args: args}
}

func fault(code api.Errno, at int) api.Fault { return api.Fault{Code: code, At: at} }

// read answers the program of a text.
func read(t *testing.T, text string) api.Program {
	t.Helper()
	p, fault := parse.Parse(text)
	if fault != (api.Fault{}) {
		t.Fatalf("parse.Parse(%q) has the fault %v", text, fault)
	}
	return p
}

// short tells x, cut to what a message can show.
func short(x any) string {
	text := fmt.Sprintf("%+v", x)
	return text[:min(len(text), 1500)]
}

// holdAll holds the fault of a program, and that the program is valid if there is none.
func holdAll(t *testing.T, p api.Program, want api.Fault) {
	t.Helper()
	if got := All(p); got != want {
		t.Errorf("P11.1: All = %v; want %v; of\n%s", got, want, print.Text(p))
	}
	holdMay(t, p, want == (api.Fault{}))
}

func holdMay(t *testing.T, p api.Program, want bool) {
	t.Helper()
	if got := May(p); got != want {
		t.Errorf("P11.1: May = %v; want %v; of\n%s", got, want, print.Text(p))
	}
}

// holdText holds that a text has a fault and no program.
func holdText(t *testing.T, text string, want api.Fault) {
	t.Helper()
	p, got := Text(text)
	if got != want {
		t.Errorf("P11.1: Text(%s) has the fault %v; want %v", short(text), got, want)
	}
	if !reflect.ValueOf(p).IsZero() {
		t.Errorf("P11.1: Text(%s) = %s beside a fault", short(text), short(p))
	}
}

// holdProgram holds that a text has no fault, and a program.
func holdProgram(t *testing.T, text string, want api.Program) {
	t.Helper()
	p, got := Text(text)
	if got != (api.Fault{}) || !tree.Eq(p, want) {
		t.Errorf("P11.1: Text(%s) = %s, %v; want %s", short(text), short(p), got, short(want))
	}
}

// holdFault holds the fault of a text that is a program's, and of that program.
func holdFault(t *testing.T, text string, want api.Fault) {
	t.Helper()
	p := read(t, text)
	holdAll(t, p, want)
	holdText(t, text, want)
}

// holdValid holds that a text is a valid program's.
func holdValid(t *testing.T, text string) {
	t.Helper()
	p := read(t, text)
	holdAll(t, p, api.Fault{})
	holdProgram(t, text, p)
}

// ordinary has a statement of each kind, labels, jumps, and arguments of both kinds; all of it is right.
func ordinary() api.Program {
	return api.Program{Globals: []string{"g", "h", "i"}, Procs: []api.Proc{
		{Name: "main", Vars: []string{"x", "y"}, Body: []api.Stmt{
			{Id: 1, Kind: api.SRead, Labels: []string{"l"}, Name: "x"},
			{Id: 2, Kind: api.SIf, Labels: []string{"m", "n"}, X: two(api.XLess, name("x"), num(7)), Then: []api.Stmt{
				{Id: 3, Kind: api.SWhile, X: name("y"), Then: []api.Stmt{
					{Id: 4, Kind: api.SBreak},
					{Id: 5, Kind: api.SCall, Proc: "k", Labels: []string{"o"}, Args: []api.Arg{ref("i")}},
					{Id: 6, Kind: api.SContinue},
				}},
				{Id: 7, Kind: api.SPrint, X: one(api.XNeg, two(api.XAdd, name("x"), name("g")))},
			}, Else: []api.Stmt{
				{Id: 8, Kind: api.SGoto, Name: "l"},
				{Id: 9, Kind: api.SCall, Name: "h", Proc: "f", Args: []api.Arg{ref("x"), val(two(api.XMul, num(2), name("x"))), ref("i")}},
			}},
			{Id: 10, Kind: api.SCall, Name: "y", Proc: "f", Args: []api.Arg{ref("h"), val(name("y")), ref("x")}},
		}, End: []string{"e", "g"}},
		{Name: "f", Params: []api.Param{{Name: "a", Ref: true}, {Name: "c"}, {Name: "b", Ref: true}}, Vars: []string{"v"}, Body: []api.Stmt{
			{Id: 11, Kind: api.SAssign, Name: "a", X: name("c")},
			{Id: 12, Kind: api.SCall, Name: "v", Proc: "k", Args: []api.Arg{ref("b")}},
			{Id: 13, Kind: api.SCall, Proc: "d"},
			{Id: 14, Kind: api.SReturn, Has: true, X: two(api.XOr, name("v"), num(0))},
			{Id: 15, Kind: api.SGoto, Labels: []string{"l"}, Name: "l"},
		}},
		{Name: "k", Params: []api.Param{{Name: "r", Ref: true}}, Body: []api.Stmt{{Id: 16, Kind: api.SReturn}}, End: []string{"e"}},
		{Name: "d", Body: []api.Stmt{{Id: 17, Kind: api.SRead, Name: "g"}}},
	}}
}

// visit calls do for v and for each field and element in it.
func visit(v reflect.Value, path string, do func(path string, v reflect.Value)) {
	do(path, v)
	switch v.Kind() {
	case reflect.Struct:
		for i := range v.NumField() {
			visit(v.Field(i), path+"."+v.Type().Field(i).Name, do)
		}
	case reflect.Slice:
		for i := range v.Len() {
			visit(v.Index(i), path+"["+strconv.Itoa(i)+"]", do)
		}
	}
}

// within calls do for each place of what x points to.
func within(x any, do func(path string, v reflect.Value)) {
	visit(reflect.ValueOf(x).Elem(), "", do)
}

// copied answers a deep copy of v that shares no slice with it, with the slices' unused room as elements.
func copied(v reflect.Value) reflect.Value {
	out := reflect.New(v.Type()).Elem()
	out.Set(v)
	switch v.Kind() {
	case reflect.Struct:
		for i := range v.NumField() {
			out.Field(i).Set(copied(v.Field(i)))
		}
	case reflect.Slice:
		all := v.Slice(0, v.Cap())
		out.Set(reflect.MakeSlice(v.Type(), all.Len(), all.Len()))
		for i := range all.Len() {
			out.Index(i).Set(copied(all.Index(i)))
		}
	}
	return out
}

func snapshot[T any](x T) T { return copied(reflect.ValueOf(&x).Elem()).Interface().(T) }

// roomy answers x with room of one more element behind each slice, which holds what the first element holds.
func roomy[T any](x T) T {
	x = snapshot(x)
	within(&x, func(_ string, v reflect.Value) {
		if v.Kind() != reflect.Slice {
			return
		}
		spare := reflect.New(v.Type().Elem()).Elem()
		if v.Len() > 0 {
			spare.Set(copied(v.Index(0)))
		}
		v.Set(reflect.Append(v, spare).Slice(0, v.Len()))
	})
	return x
}

// empties lays an empty slice, or nil, wherever x has a slice without elements.
func empties[T any](x T, asNil bool) T {
	x = snapshot(x)
	within(&x, func(_ string, v reflect.Value) {
		if v.Kind() == reflect.Slice && v.Len() == 0 {
			if asNil {
				v.SetZero()
			} else {
				v.Set(reflect.MakeSlice(v.Type(), 0, 0))
			}
		}
	})
	return x
}

type span struct {
	path     string
	from, to uintptr
}

// spans answers the memory of all slices, to the ends of their capacities, and of all strings in x.
func spans(x any) []span {
	var out []span
	visit(reflect.ValueOf(x), "", func(path string, v reflect.Value) {
		from, size := uintptr(0), uintptr(0)
		switch v.Kind() {
		case reflect.Slice:
			from, size = v.Pointer(), uintptr(v.Cap())*v.Type().Elem().Size()
		case reflect.String:
			from, size = uintptr(unsafe.Pointer(unsafe.StringData(v.String()))), uintptr(v.Len())
		}
		if size > 0 {
			out = append(out, span{path, from, from + size})
		}
	})
	return out
}

// holdApart holds that no two of some spans meet.
func holdApart(t *testing.T, all []span) {
	t.Helper()
	slices.SortFunc(all, func(a, b span) int { return cmp.Compare(a.from, b.from) })
	for i := 1; i < len(all); i++ {
		if all[i-1].to > all[i].from {
			t.Errorf("P0.3: %s and %s share memory", all[i-1].path, all[i].path)
		}
	}
}
