package touch

import (
	"cmp"
	"fmt"
	"reflect"
	"slices"
	"strconv"
	"strings"
	"testing"
	"unsafe"

	"whittler/api"
	"whittler/parse"
	"whittler/scope"
)

func num(n int64) api.Expr { return api.Expr{Op: api.XNumber, N: n} }

func name(s string) api.Expr { return api.Expr{Op: api.XName, Name: s} }

func one(op int, x api.Expr) api.Expr { return api.Expr{Op: op, Kids: []api.Expr{x}} }

func two(op int, x, y api.Expr) api.Expr { return api.Expr{Op: op, Kids: []api.Expr{x, y}} }

// read answers the program of a text.
func read(t *testing.T, text string) api.Program {
	t.Helper()
	p, fault := parse.Parse(text)
	if fault != (api.Fault{}) {
		t.Fatalf("parse.Parse(%q) has the fault %v", text, fault)
	}
	return p
}

// short tells x, cut to what a message can show.
func short(x any) string {
	text := fmt.Sprintf("%+v", x)
	return text[:min(len(text), 1500)]
}

// hold holds all three answers for a procedure; each wanted one is a row of names with blanks between.
func hold(t *testing.T, p api.Program, proc, calls, all, globals string) {
	t.Helper()
	holdCalls(t, p, proc, strings.Fields(calls)...)
	holdReached(t, p, proc, strings.Fields(all)...)
	holdGlobals(t, p, proc, strings.Fields(globals)...)
}

func holdCalls(t *testing.T, p api.Program, proc string, want ...string) {
	t.Helper()
	if got := Calls(p, proc); !slices.Equal(got, want) {
		t.Errorf("P9.1: Calls(%s, %q) = %q; want %q", short(p), proc, got, want)
	}
}

func holdReached(t *testing.T, p api.Program, proc string, want ...string) {
	t.Helper()
	if got := All(p, proc); !slices.Equal(got, want) {
		t.Errorf("P9.1: All(%s, %q) = %q; want %q", short(p), proc, got, want)
	}
}

func holdGlobals(t *testing.T, p api.Program, proc string, want ...string) {
	t.Helper()
	if got := Globals(p, proc); !slices.Equal(got, want) {
		t.Errorf("P9.1: Globals(%s, %q) = %q; want %q", short(p), proc, got, want)
	}
}

// holdNothing holds what is answered for a program for which scope.Check returns a fault.
func holdNothing(t *testing.T, p api.Program, what string) {
	t.Helper()
	if scope.Check(p) == (api.Fault{}) {
		t.Errorf("P6.2: a program has no fault, %s", what)
	}
	for _, proc := range []string{"main", "f", "k", "p", "g", "a", ""} {
		if got := Calls(p, proc); len(got) != 0 {
			t.Errorf("P9: Calls of %q in a program with a fault, %s, = %q", proc, what, got)
		}
		if got := All(p, proc); len(got) != 0 {
			t.Errorf("P9: All of %q in a program with a fault, %s, = %q", proc, what, got)
		}
		if got := Globals(p, proc); len(got) != 0 {
			t.Errorf("P9: Globals of %q in a program with a fault, %s, = %q", proc, what, got)
		}
	}
}

// ordinary has a statement of each kind, calls in all sorts of places, and globals of which some are
// named in no more than one way.
func ordinary() api.Program {
	return api.Program{Globals: []string{"z", "g", "h", "i", "j", "l", "f"}, Procs: []api.Proc{
		{Name: "main", Vars: []string{"x", "y"}, Body: []api.Stmt{
			{Id: 1, Kind: api.SRead, Labels: []string{"l"}, Name: "z"},
			{Id: 2, Kind: api.SIf, Labels: []string{"m", "n"}, X: two(api.XLess, name("x"), num(7)), Then: []api.Stmt{
				{Id: 3, Kind: api.SWhile, X: name("y"), Then: []api.Stmt{
					{Id: 4, Kind: api.SBreak},
					{Id: 5, Kind: api.SCall, Proc: "k", Labels: []string{"o"}},
					{Id: 6, Kind: api.SContinue},
				}},
				{Id: 7, Kind: api.SPrint, X: one(api.XNeg, two(api.XAdd, name("x"), name("g")))},
			}, Else: []api.Stmt{
				{Id: 8, Kind: api.SGoto, Name: "l"},
				{Id: 9, Kind: api.SCall, Name: "h", Proc: "f", Args: []api.Arg{{Ref: true, Name: "i"}, {X: two(api.XMul, num(2), name("x"))}}},
			}},
		}, End: []string{"e", "g"}},
		{Name: "f", Params: []api.Param{{Name: "a", Ref: true}, {Name: "b"}}, Vars: []string{"v"}, Body: []api.Stmt{
			{Id: 10, Kind: api.SAssign, Name: "a", X: name("b")},
			{Id: 11, Kind: api.SCall, Proc: "b", Args: []api.Arg{{X: two(api.XSub, name("j"), name("v"))}}},
			{Id: 12, Kind: api.SReturn, Has: true, X: two(api.XOr, name("v"), num(0))},
		}},
		{Name: "k", Body: []api.Stmt{{Id: 13, Kind: api.SReturn}}, End: []string{"e"}},
		{Name: "b", Params: []api.Param{{Name: "a"}}, Body: []api.Stmt{{Id: 14, Kind: api.SAssign, Name: "a", X: num(1)}}},
	}}
}

// visit calls do for v and for each field and element in it.
func visit(v reflect.Value, path string, do func(path string, v reflect.Value)) {
	do(path, v)
	switch v.Kind() {
	case reflect.Struct:
		for i := range v.NumField() {
			visit(v.Field(i), path+"."+v.Type().Field(i).Name, do)
		}
	case reflect.Slice:
		for i := range v.Len() {
			visit(v.Index(i), path+"["+strconv.Itoa(i)+"]", do)
		}
	}
}

// within calls do for each place of what x points to.
func within(x any, do func(path string, v reflect.Value)) {
	visit(reflect.ValueOf(x).Elem(), "", do)
}

// copied answers a deep copy of v that shares no slice with it, with the slices' unused room as elements.
func copied(v reflect.Value) reflect.Value {
	out := reflect.New(v.Type()).Elem()
	out.Set(v)
	switch v.Kind() {
	case reflect.Struct:
		for i := range v.NumField() {
			out.Field(i).Set(copied(v.Field(i)))
		}
	case reflect.Slice:
		all := v.Slice(0, v.Cap())
		out.Set(reflect.MakeSlice(v.Type(), all.Len(), all.Len()))
		for i := range all.Len() {
			out.Index(i).Set(copied(all.Index(i)))
		}
	}
	return out
}

func snapshot[T any](x T) T { return copied(reflect.ValueOf(&x).Elem()).Interface().(T) }

// roomy answers x with room of one more element behind each slice, which holds what the first element holds.
func roomy[T any](x T) T {
	x = snapshot(x)
	within(&x, func(_ string, v reflect.Value) {
		if v.Kind() != reflect.Slice {
			return
		}
		spare := reflect.New(v.Type().Elem()).Elem()
		if v.Len() > 0 {
			spare.Set(copied(v.Index(0)))
		}
		v.Set(reflect.Append(v, spare).Slice(0, v.Len()))
	})
	return x
}

// empties lays an empty slice, or nil, wherever x has a slice without elements.
func empties[T any](x T, asNil bool) T {
	x = snapshot(x)
	within(&x, func(_ string, v reflect.Value) {
		if v.Kind() == reflect.Slice && v.Len() == 0 {
			if asNil {
				v.SetZero()
			} else {
				v.Set(reflect.MakeSlice(v.Type(), 0, 0))
			}
		}
	})
	return x
}

type span struct {
	path     string
	from, to uintptr
}

// spans answers the memory of all slices, to the ends of their capacities, and of all strings in x.
func spans(x any) []span {
	var out []span
	visit(reflect.ValueOf(x), "", func(path string, v reflect.Value) {
		from, size := uintptr(0), uintptr(0)
		switch v.Kind() {
		case reflect.Slice:
			from, size = v.Pointer(), uintptr(v.Cap())*v.Type().Elem().Size()
		case reflect.String:
			from, size = uintptr(unsafe.Pointer(unsafe.StringData(v.String()))), uintptr(v.Len())
		}
		if size > 0 {
			out = append(out, span{path, from, from + size})
		}
	})
	return out
}

// part lays each string of what x points to into memory of its own.
func part(x any) {
	within(x, func(_ string, v reflect.Value) {
		if v.Kind() == reflect.String {
			v.SetString(strings.Clone(v.String()))
		}
	})
}

// holdApart holds that no two of some spans meet.
func holdApart(t *testing.T, all []span) {
	t.Helper()
	slices.SortFunc(all, func(a, b span) int { return cmp.Compare(a.from, b.from) })
	for i := 1; i < len(all); i++ {
		if all[i-1].to > all[i].from {
			t.Errorf("P0.3: %s and %s share memory", all[i-1].path, all[i].path)
		}
	}
}
