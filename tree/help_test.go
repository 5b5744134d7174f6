package tree

import (
	"reflect"
	"slices"
	"strconv"
	"strings"

	"whittler/api"
)

var keywords = []string{"global", "proc", "var", "ref", "if", "else", "while", "break", "continue", "return", "goto", "read", "print"}

var goodNames = []string{"a", "z9", "abcdefgh", "a1234567", "iff", "main"}

var badNames = slices.Concat(keywords, []string{"", "0", "9a", "A", "aB", "a_b", "a b", " a", "a\n", "a\x00", "\xff", "é", "$in", "$ret", "abcdefghi", "a12345678", strings.Repeat("a", 100000)})

func num(n int64) api.Expr { return api.Expr{Op: api.XNumber, N: n} }

func name(s string) api.Expr { return api.Expr{Op: api.XName, Name: s} }

func one(op int, x api.Expr) api.Expr { return api.Expr{Op: op, Kids: []api.Expr{x}} }

func two(op int, x, y api.Expr) api.Expr { return api.Expr{Op: op, Kids: []api.Expr{x, y}} }

// ordinary answers a well-formed program with a statement of each kind and a name in each place.
func ordinary() api.Program {
	return api.Program{Globals: []string{"g", "h"}, Procs: []api.Proc{
		{Name: "main", Vars: []string{"x", "y"}, Body: []api.Stmt{
			{Id: 1, Kind: api.SRead, Labels: []string{"l"}, Name: "x"},
			{Id: 2, Kind: api.SIf, Labels: []string{"m", "n"}, X: two(api.XLess, name("x"), num(7)), Then: []api.Stmt{
				{Id: 3, Kind: api.SWhile, X: name("y"), Then: []api.Stmt{
					{Id: 4, Kind: api.SBreak},
					{Id: 5, Kind: api.SContinue, Labels: []string{"o"}},
				}},
				{Id: 6, Kind: api.SPrint, X: one(api.XNeg, two(api.XAdd, name("x"), name("g")))},
			}, Else: []api.Stmt{
				{Id: 7, Kind: api.SGoto, Name: "e"},
			}},
			{Id: 8, Kind: api.SCall, Name: "y", Proc: "f", Args: []api.Arg{{Ref: true, Name: "x"}, {X: two(api.XMul, num(2), name("h"))}}},
			{Id: 9, Kind: api.SCall, Proc: "k"},
		}, End: []string{"e", "end"}},
		{Name: "f", Params: []api.Param{{Name: "a", Ref: true}, {Name: "b"}}, Vars: []string{"v"}, Body: []api.Stmt{
			{Id: 10, Kind: api.SAssign, Name: "a", X: name("b")},
			{Id: 11, Kind: api.SReturn, Has: true, X: two(api.XOr, name("v"), num(0))},
		}},
		{Name: "k", Body: []api.Stmt{{Id: 12, Kind: api.SReturn}}},
	}}
}

// odd answers a program that is not well-formed: with fields that no kind has together, with ids of
// any kind, and with names that are none.
func odd() api.Program {
	wild := api.Expr{Op: -5, N: -9, Name: "Q", Kids: []api.Expr{num(-1), {Op: 99, Name: "if", Kids: []api.Expr{name(""), {}, num(3)}}}}
	inner := api.Stmt{Id: 7, Kind: -1, Labels: []string{""}, Name: "N", Proc: "P", X: wild, Has: true, Args: []api.Arg{{Ref: true, Name: "R", X: wild}}, Then: []api.Stmt{{Id: 4}, {Id: 5}}, Else: []api.Stmt{{Id: -4}}}
	outer := api.Stmt{Id: 7, Kind: 77, Labels: []string{"1", "2"}, Name: "n", Proc: "p", X: num(-4), Has: true, Args: []api.Arg{{}, {Ref: true, X: num(1)}}, Then: []api.Stmt{inner, {Kind: api.SBreak}}, Else: []api.Stmt{inner, inner}}
	return api.Program{Globals: []string{"", "G", "G"}, Procs: []api.Proc{
		{},
		{Name: "\xff", Params: []api.Param{{Name: "p", Ref: true}, {Name: ""}}, Vars: []string{"", "v"}, Body: []api.Stmt{outer, {Id: 5, Kind: api.SPrint}}, End: []string{"E", ""}},
		{Name: "\xff", Body: []api.Stmt{{Id: 1 << 62, Kind: api.SWhile, Else: []api.Stmt{{Id: -1 << 63}}}}},
	}}
}

// visit calls do for v and for each field and element in it.
func visit(v reflect.Value, path string, do func(path string, v reflect.Value)) {
	do(path, v)
	switch v.Kind() {
	case reflect.Struct:
		for i := range v.NumField() {
			visit(v.Field(i), path+"."+v.Type().Field(i).Name, do)
		}
	case reflect.Slice:
		for i := range v.Len() {
			visit(v.Index(i), path+"["+strconv.Itoa(i)+"]", do)
		}
	}
}

// within calls do for each place of what x points to.
func within(x any, do func(path string, v reflect.Value)) {
	visit(reflect.ValueOf(x).Elem(), "", do)
}

// copied answers a deep copy of v that shares no slice with it, with the slices' unused room as elements.
func copied(v reflect.Value) reflect.Value {
	out := reflect.New(v.Type()).Elem()
	out.Set(v)
	switch v.Kind() {
	case reflect.Struct:
		for i := range v.NumField() {
			out.Field(i).Set(copied(v.Field(i)))
		}
	case reflect.Slice:
		all := v.Slice(0, v.Cap())
		out.Set(reflect.MakeSlice(v.Type(), all.Len(), all.Len()))
		for i := range all.Len() {
			out.Index(i).Set(copied(all.Index(i)))
		}
	}
	return out
}

func snapshot[T any](x T) T { return copied(reflect.ValueOf(&x).Elem()).Interface().(T) }

// roomy answers x with room of one more element behind each slice, which holds what the first element holds.
func roomy[T any](x T) T {
	x = snapshot(x)
	within(&x, func(_ string, v reflect.Value) {
		if v.Kind() != reflect.Slice {
			return
		}
		spare := reflect.New(v.Type().Elem()).Elem()
		if v.Len() > 0 {
			spare.Set(copied(v.Index(0)))
		}
		v.Set(reflect.Append(v, spare).Slice(0, v.Len()))
	})
	return x
}

// empties lays an empty slice, or nil, wherever x has a slice without elements.
func empties[T any](x T, asNil bool) T {
	x = snapshot(x)
	within(&x, func(_ string, v reflect.Value) {
		if v.Kind() == reflect.Slice && v.Len() == 0 {
			if asNil {
				v.SetZero()
			} else {
				v.Set(reflect.MakeSlice(v.Type(), 0, 0))
			}
		}
	})
	return x
}

type span struct {
	path     string
	from, to uintptr
}

// spans answers the memory of all slices, to the ends of their capacities, and of all strings in what x points to.
func spans(x any) []span {
	var out []span
	within(x, func(path string, v reflect.Value) {
		at, size := uintptr(0), 0
		switch v.Kind() {
		case reflect.Slice:
			at, size = v.Pointer(), v.Cap()*int(v.Type().Elem().Size())
		case reflect.String:
			at, size = address(v.String()), v.Len()
		}
		if size > 0 {
			out = append(out, span{path, at, at + uintptr(size)})
		}
	})
	return out
}

// meeting answers a place of a and one of b, other than the places that skip names, whose memory
// meets; false if there are none.
func meeting(a, b []span, skip func(x, y string) bool) (string, string, bool) {
	for _, x := range a {
		for _, y := range b {
			if x.from < y.to && y.from < x.to && !skip(x.path, y.path) {
				return x.path, y.path, true
			}
		}
	}
	return "", "", false
}
