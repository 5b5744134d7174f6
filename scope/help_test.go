package scope

import (
	"cmp"
	"fmt"
	"reflect"
	"slices"
	"strconv"
	"strings"
	"testing"
	"unsafe"

	"whittler/api"
	"whittler/parse"
	"whittler/tree"
)

func num(n int64) api.Expr { return api.Expr{Op: api.XNumber, N: n} }

func name(s string) api.Expr { return api.Expr{Op: api.XName, Name: s} }

func one(op int, x api.Expr) api.Expr { return api.Expr{Op: op, Kids: []api.Expr{x}} }

func two(op int, x, y api.Expr) api.Expr { return api.Expr{Op: op, Kids: []api.Expr{x, y}} }

// read answers the program of a text.
func read(t *testing.T, text string) api.Program {
	t.Helper()
	p, fault := parse.Parse(text)
	if fault != (api.Fault{}) {
		t.Fatalf("parse.Parse(%q) has the fault %v", text, fault)
	}
	return p
}

// short tells x, cut to what a message can show.
func short(x any) string {
	text := fmt.Sprintf("%+v", x)
	return text[:min(len(text), 1500)]
}

// body answers a program of the procedure main and others, its statements numbered.
func body(stmts []api.Stmt, others ...api.Proc) api.Program {
	return tree.Number(api.Program{Procs: append([]api.Proc{{Name: "main", Body: stmts}}, others...)})
}

// wrong is the fault of names at a place.
func wrong(at int) api.Fault { return api.Fault{Code: api.ErrName, At: at} }

func holdCheck(t *testing.T, p api.Program, want api.Fault) {
	t.Helper()
	if got := Check(p); got != want {
		t.Errorf("P6.2: Check(%s) = %v; want %v", short(p), got, want)
	}
}

func holdKind(t *testing.T, p api.Program, proc, name string, want int) {
	t.Helper()
	if got := Kind(p, proc, name); got != want {
		t.Errorf("P6.1: Kind(%s, %q, %q) = %d; want %d", short(p), proc, name, got, want)
	}
}

func holdVars(t *testing.T, p api.Program, proc string, want ...string) {
	t.Helper()
	if got := Vars(p, proc); !slices.Equal(got, want) {
		t.Errorf("P6.1: Vars(%s, %q) = %q; want %q", short(p), proc, got, want)
	}
}

// holdProc holds that the procedure with a name is the one at a place of p; -1 for none.
func holdProc(t *testing.T, p api.Program, name string, at int) {
	t.Helper()
	got, ok := Proc(p, name)
	if ok != (at >= 0) {
		t.Errorf("P6.1: Proc(%s, %q) reports %v", short(p), name, ok)
	}
	want := api.Proc{}
	if at >= 0 {
		want = p.Procs[at]
	}
	if !tree.Eq(api.Program{Procs: []api.Proc{got}}, api.Program{Procs: []api.Proc{want}}) {
		t.Errorf("P6.1: Proc(%s, %q) = %s; want %s", short(p), name, short(got), short(want))
	}
}

// holdNothing holds what is answered for a program that is not well-formed.
func holdNothing(t *testing.T, p api.Program, what string) {
	t.Helper()
	if tree.May(p) {
		t.Errorf("P3.1: a program is well-formed, %s", what)
	}
	for _, proc := range []string{"main", "p", "f", "k", ""} {
		for _, name := range []string{"a", "b", "g", "x", "v", ""} {
			if got := Kind(p, proc, name); got != None {
				t.Errorf("P6.1: Kind of a program that is not well-formed, %s, = %d", what, got)
			}
		}
		if got := Vars(p, proc); len(got) != 0 {
			t.Errorf("P6.1: Vars of a program that is not well-formed, %s, = %q", what, got)
		}
		if got, ok := Proc(p, proc); ok || !reflect.DeepEqual(got, api.Proc{}) {
			t.Errorf("P6.1: Proc of a program that is not well-formed, %s, = %+v, %v", what, got, ok)
		}
	}
	if got := Check(p); got != (api.Fault{Code: api.ErrForm}) {
		t.Errorf("P6.2: Check of a program that is not well-formed, %s, = %v", what, got)
	}
}

// ordinary has a statement of each kind and a name in each place; its names are all right.
func ordinary() api.Program {
	return api.Program{Globals: []string{"g", "h"}, Procs: []api.Proc{
		{Name: "main", Vars: []string{"x", "y"}, Body: []api.Stmt{
			{Id: 1, Kind: api.SRead, Labels: []string{"l"}, Name: "x"},
			{Id: 2, Kind: api.SIf, Labels: []string{"m", "n"}, X: two(api.XLess, name("x"), num(7)), Then: []api.Stmt{
				{Id: 3, Kind: api.SWhile, X: name("y"), Then: []api.Stmt{
					{Id: 4, Kind: api.SBreak},
					{Id: 5, Kind: api.SContinue, Labels: []string{"o"}},
				}},
				{Id: 6, Kind: api.SPrint, X: one(api.XNeg, two(api.XAdd, name("x"), name("g")))},
			}, Else: []api.Stmt{
				{Id: 7, Kind: api.SGoto, Name: "e"},
			}},
			{Id: 8, Kind: api.SCall, Name: "y", Proc: "f", Args: []api.Arg{{Ref: true, Name: "x"}, {X: two(api.XMul, num(2), name("h"))}}},
			{Id: 9, Kind: api.SCall, Proc: "k"},
		}, End: []string{"e", "end"}},
		{Name: "f", Params: []api.Param{{Name: "a", Ref: true}, {Name: "b"}}, Vars: []string{"v"}, Body: []api.Stmt{
			{Id: 10, Kind: api.SAssign, Name: "a", X: name("b")},
			{Id: 11, Kind: api.SReturn, Has: true, X: two(api.XOr, name("v"), num(0))},
		}},
		{Name: "k", Body: []api.Stmt{{Id: 12, Kind: api.SReturn}}},
	}}
}

// visit calls do for v and for each field and element in it.
func visit(v reflect.Value, path string, do func(path string, v reflect.Value)) {
	do(path, v)
	switch v.Kind() {
	case reflect.Struct:
		for i := range v.NumField() {
			visit(v.Field(i), path+"."+v.Type().Field(i).Name, do)
		}
	case reflect.Slice:
		for i := range v.Len() {
			visit(v.Index(i), path+"["+strconv.Itoa(i)+"]", do)
		}
	}
}

// within calls do for each place of what x points to.
func within(x any, do func(path string, v reflect.Value)) {
	visit(reflect.ValueOf(x).Elem(), "", do)
}

// copied answers a deep copy of v that shares no slice with it, with the slices' unused room as elements.
func copied(v reflect.Value) reflect.Value {
	out := reflect.New(v.Type()).Elem()
	out.Set(v)
	switch v.Kind() {
	case reflect.Struct:
		for i := range v.NumField() {
			out.Field(i).Set(copied(v.Field(i)))
		}
	case reflect.Slice:
		all := v.Slice(0, v.Cap())
		out.Set(reflect.MakeSlice(v.Type(), all.Len(), all.Len()))
		for i := range all.Len() {
			out.Index(i).Set(copied(all.Index(i)))
		}
	}
	return out
}

func snapshot[T any](x T) T { return copied(reflect.ValueOf(&x).Elem()).Interface().(T) }

// roomy answers x with room of one more element behind each slice, which holds what the first element holds.
func roomy[T any](x T) T {
	x = snapshot(x)
	within(&x, func(_ string, v reflect.Value) {
		if v.Kind() != reflect.Slice {
			return
		}
		spare := reflect.New(v.Type().Elem()).Elem()
		if v.Len() > 0 {
			spare.Set(copied(v.Index(0)))
		}
		v.Set(reflect.Append(v, spare).Slice(0, v.Len()))
	})
	return x
}

// empties lays an empty slice, or nil, wherever x has a slice without elements.
func empties[T any](x T, asNil bool) T {
	x = snapshot(x)
	within(&x, func(_ string, v reflect.Value) {
		if v.Kind() == reflect.Slice && v.Len() == 0 {
			if asNil {
				v.SetZero()
			} else {
				v.Set(reflect.MakeSlice(v.Type(), 0, 0))
			}
		}
	})
	return x
}

type span struct {
	path     string
	from, to uintptr
}

// spans answers the memory of all slices, to the ends of their capacities, and of all strings in x.
func spans(x any) []span {
	var out []span
	visit(reflect.ValueOf(x), "", func(path string, v reflect.Value) {
		from, size := uintptr(0), uintptr(0)
		switch v.Kind() {
		case reflect.Slice:
			from, size = v.Pointer(), uintptr(v.Cap())*v.Type().Elem().Size()
		case reflect.String:
			from, size = uintptr(unsafe.Pointer(unsafe.StringData(v.String()))), uintptr(v.Len())
		}
		if size > 0 {
			out = append(out, span{path, from, from + size})
		}
	})
	return out
}

// part lays each string of what x points to into memory of its own.
func part(x any) {
	within(x, func(_ string, v reflect.Value) {
		if v.Kind() == reflect.String {
			v.SetString(strings.Clone(v.String()))
		}
	})
}

// holdApart holds that no two of some spans meet.
func holdApart(t *testing.T, all []span) {
	t.Helper()
	slices.SortFunc(all, func(a, b span) int { return cmp.Compare(a.from, b.from) })
	for i := 1; i < len(all); i++ {
		if all[i-1].to > all[i].from {
			t.Errorf("P0.3: %s and %s share memory", all[i-1].path, all[i].path)
		}
	}
}
