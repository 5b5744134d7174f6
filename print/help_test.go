package print

import (
	"reflect"
	"strconv"
	"strings"
	"testing"
	"unsafe"

	"whittler/api"
	"whittler/lex"
	"whittler/parse"
	"whittler/tree"
)

// signOf tells how an operator is written.
var signOf = []string{api.XNeg: "-", api.XNot: "!", api.XMul: "*", api.XDiv: "/", api.XRem: "%", api.XAdd: "+", api.XSub: "-", api.XLess: "<", api.XLessEq: "<=", api.XMore: ">", api.XMoreEq: ">=", api.XEq: "==", api.XNotEq: "!=", api.XAnd: "&&", api.XOr: "||"}

// unary and binary have the operators by their numbers.
var (
	unary  = []int{api.XNeg, api.XNot}
	binary = []int{api.XMul, api.XDiv, api.XRem, api.XAdd, api.XSub, api.XLess, api.XLessEq, api.XMore, api.XMoreEq, api.XEq, api.XNotEq, api.XAnd, api.XOr}
)

const most = 1<<63 - 1

func num(n int64) api.Expr { return api.Expr{Op: api.XNumber, N: n} }

func name(s string) api.Expr { return api.Expr{Op: api.XName, Name: s} }

func one(op int, x api.Expr) api.Expr { return api.Expr{Op: op, Kids: []api.Expr{x}} }

func two(op int, x, y api.Expr) api.Expr { return api.Expr{Op: op, Kids: []api.Expr{x, y}} }

// body answers a program of one procedure, its statements numbered.
func body(stmts ...api.Stmt) api.Program {
	return tree.Number(api.Program{Procs: []api.Proc{{Name: "p", Body: stmts}}})
}

func printing(x api.Expr) api.Program { return body(api.Stmt{Kind: api.SPrint, X: x}) }

func sameExpr(x, y api.Expr) bool { return tree.Eq(printing(x), printing(y)) }

// lines answers a text of lines.
func lines(all ...string) string { return strings.Join(all, "\n") + "\n" }

// short cuts a text to what a message can show.
func short(text string) string {
	if len(text) <= 2000 {
		return text
	}
	return text[:1000] + " ... " + text[len(text)-1000:]
}

// holdExpr holds an expression's text, and that it is read again as that expression.
func holdExpr(t *testing.T, x api.Expr, want string) {
	t.Helper()
	if got := Expr(x); got != want {
		t.Errorf("P5.1: Expr(%v) = %q; want %q", x, short(got), short(want))
	}
	if got, fault := parse.Expr(want); fault != (api.Fault{}) || !sameExpr(got, x) {
		t.Errorf("P5.1: parse.Expr(%q) = %v, %v; want %v", short(want), got, fault, x)
	}
}

// holdNoExpr holds that there is no text, neither of x nor of what x is in.
func holdNoExpr(t *testing.T, x api.Expr, what string) {
	t.Helper()
	for _, outer := range []api.Expr{x, one(api.XNeg, x), one(api.XNot, one(api.XNot, x)), two(api.XMul, x, name("a")), two(api.XOr, num(1), two(api.XAdd, num(0), x))} {
		if got := Expr(outer); got != "" {
			t.Errorf("P5.1: Expr of an expression that is not well-formed, %s, = %q", what, short(got))
		}
	}
	for _, s := range []api.Stmt{{Kind: api.SPrint, X: x}, {Kind: api.SAssign, Name: "a", X: x}, {Kind: api.SWhile, X: x}, {Kind: api.SIf, X: x}, {Kind: api.SReturn, Has: true, X: x}, {Kind: api.SCall, Proc: "f", Args: []api.Arg{{X: num(1)}, {X: x}}}} {
		holdNoText(t, body(s), what)
	}
}

// holdText holds a program's text, and that it is read again as that program.
func holdText(t *testing.T, p api.Program, want string) {
	t.Helper()
	if got := Text(p); got != want {
		t.Errorf("P5.2: Text(%+v) = \n%s; want \n%s", p, short(got), short(want))
	}
	holdReadAgain(t, p)
}

func holdReadAgain(t *testing.T, p api.Program) {
	t.Helper()
	text := Text(p)
	if got, fault := parse.Parse(text); fault != (api.Fault{}) || !tree.Eq(got, p) {
		t.Errorf("P5.2: parse.Parse of \n%s = %+v, %v; want %+v", short(text), got, fault, p)
	}
}

func holdNoText(t *testing.T, p api.Program, what string) {
	t.Helper()
	if got := Text(p); got != "" {
		t.Errorf("P5.2: Text of a program that is not well-formed, %s, = \n%s", what, short(got))
	}
}

// tokens answers how many tokens a text has, if these are not too many.
func tokens(text string) (int, bool) {
	all, fault := lex.All(text)
	return len(all) - 1, fault == (api.Fault{})
}

// ordinary has a statement of each kind and a name in each place; ordinaryText is how it is written.
func ordinary() api.Program {
	return api.Program{Globals: []string{"g", "h"}, Procs: []api.Proc{
		{Name: "main", Vars: []string{"x", "y"}, Body: []api.Stmt{
			{Id: 1, Kind: api.SRead, Labels: []string{"l"}, Name: "x"},
			{Id: 2, Kind: api.SIf, Labels: []string{"m", "n"}, X: two(api.XLess, name("x"), num(7)), Then: []api.Stmt{
				{Id: 3, Kind: api.SWhile, X: name("y"), Then: []api.Stmt{
					{Id: 4, Kind: api.SBreak},
					{Id: 5, Kind: api.SContinue, Labels: []string{"o"}},
				}},
				{Id: 6, Kind: api.SPrint, X: one(api.XNeg, two(api.XAdd, name("x"), name("g")))},
			}, Else: []api.Stmt{
				{Id: 7, Kind: api.SGoto, Name: "e"},
			}},
			{Id: 8, Kind: api.SCall, Name: "y", Proc: "f", Args: []api.Arg{{Ref: true, Name: "x"}, {X: two(api.XMul, num(2), name("h"))}}},
			{Id: 9, Kind: api.SCall, Proc: "k"},
		}, End: []string{"e", "end"}},
		{Name: "f", Params: []api.Param{{Name: "a", Ref: true}, {Name: "b"}}, Vars: []string{"v"}, Body: []api.Stmt{
			{Id: 10, Kind: api.SAssign, Name: "a", X: name("b")},
			{Id: 11, Kind: api.SReturn, Has: true, X: two(api.XOr, name("v"), num(0))},
		}},
		{Name: "k", Body: []api.Stmt{{Id: 12, Kind: api.SReturn}}},
	}}
}

const ordinaryText = `global g, h;
proc main() {
 var x, y;
 l: read x;
 m: n: if (x < 7) {
  while (y) {
   break;
   o: continue;
  }
  print -(x + g);
 } else {
  goto e;
 }
 y = f(ref x, 2 * h);
 k();
e: end: }
proc f(ref a, b) {
 var v;
 a = b;
 return v || 0;
}
proc k() {
 return;
}
`

// visit calls do for v and for each field and element in it.
func visit(v reflect.Value, path string, do func(path string, v reflect.Value)) {
	do(path, v)
	switch v.Kind() {
	case reflect.Struct:
		for i := range v.NumField() {
			visit(v.Field(i), path+"."+v.Type().Field(i).Name, do)
		}
	case reflect.Slice:
		for i := range v.Len() {
			visit(v.Index(i), path+"["+strconv.Itoa(i)+"]", do)
		}
	}
}

// within calls do for each place of what x points to.
func within(x any, do func(path string, v reflect.Value)) {
	visit(reflect.ValueOf(x).Elem(), "", do)
}

// copied answers a deep copy of v that shares no slice with it, with the slices' unused room as elements.
func copied(v reflect.Value) reflect.Value {
	out := reflect.New(v.Type()).Elem()
	out.Set(v)
	switch v.Kind() {
	case reflect.Struct:
		for i := range v.NumField() {
			out.Field(i).Set(copied(v.Field(i)))
		}
	case reflect.Slice:
		all := v.Slice(0, v.Cap())
		out.Set(reflect.MakeSlice(v.Type(), all.Len(), all.Len()))
		for i := range all.Len() {
			out.Index(i).Set(copied(all.Index(i)))
		}
	}
	return out
}

func snapshot[T any](x T) T { return copied(reflect.ValueOf(&x).Elem()).Interface().(T) }

// roomy answers x with room of one more element behind each slice, which holds what the first element holds.
func roomy[T any](x T) T {
	x = snapshot(x)
	within(&x, func(_ string, v reflect.Value) {
		if v.Kind() != reflect.Slice {
			return
		}
		spare := reflect.New(v.Type().Elem()).Elem()
		if v.Len() > 0 {
			spare.Set(copied(v.Index(0)))
		}
		v.Set(reflect.Append(v, spare).Slice(0, v.Len()))
	})
	return x
}

// empties lays an empty slice, or nil, wherever x has a slice without elements.
func empties[T any](x T, asNil bool) T {
	x = snapshot(x)
	within(&x, func(_ string, v reflect.Value) {
		if v.Kind() == reflect.Slice && v.Len() == 0 {
			if asNil {
				v.SetZero()
			} else {
				v.Set(reflect.MakeSlice(v.Type(), 0, 0))
			}
		}
	})
	return x
}

// meets reports whether two texts share memory.
func meets(a, b string) bool {
	if a == "" || b == "" {
		return false
	}
	x, y := uintptr(unsafe.Pointer(unsafe.StringData(a))), uintptr(unsafe.Pointer(unsafe.StringData(b)))
	return x < y+uintptr(len(b)) && y < x+uintptr(len(a))
}
