package parse

import (
	"reflect"
	"slices"
	"strconv"
	"strings"
	"testing"
	"unsafe"

	"whittler/api"
	"whittler/tree"
)

var keywords = []string{"global", "proc", "var", "ref", "if", "else", "while", "break", "continue", "return", "goto", "read", "print"}

var signs = []string{"==", "!=", "<=", ">=", "&&", "||", "(", ")", "{", "}", ",", ";", ":", "=", "!", "<", ">", "+", "-", "*", "/", "%"}

// everyToken has a token of each kind and each text.
var everyToken = slices.Concat([]string{"a", "1"}, keywords, signs)

// signOf tells how an operator is written, from XNeg on.
var signOf = []string{api.XNeg: "-", api.XNot: "!", api.XMul: "*", api.XDiv: "/", api.XRem: "%", api.XAdd: "+", api.XSub: "-", api.XLess: "<", api.XLessEq: "<=", api.XMore: ">", api.XMoreEq: ">=", api.XEq: "==", api.XNotEq: "!=", api.XAnd: "&&", api.XOr: "||"}

// binding has the binary operators, those that bind closest first.
var binding = [][]int{{api.XMul, api.XDiv, api.XRem}, {api.XAdd, api.XSub}, {api.XLess, api.XLessEq, api.XMore, api.XMoreEq}, {api.XEq, api.XNotEq}, {api.XAnd}, {api.XOr}}

func num(n int64) api.Expr { return api.Expr{Op: api.XNumber, N: n} }

func name(s string) api.Expr { return api.Expr{Op: api.XName, Name: s} }

func one(op int, x api.Expr) api.Expr { return api.Expr{Op: op, Kids: []api.Expr{x}} }

func two(op int, x, y api.Expr) api.Expr { return api.Expr{Op: op, Kids: []api.Expr{x, y}} }

// printing answers a program that only prints x.
func printing(x api.Expr) api.Program {
	return api.Program{Procs: []api.Proc{{Name: "a", Body: []api.Stmt{{Id: 1, Kind: api.SPrint, X: x}}}}}
}

func sameExpr(x, y api.Expr) bool { return tree.Eq(printing(x), printing(y)) }

// short cuts a text to what a message can show.
func short(text string) string {
	if len(text) <= 100 {
		return text
	}
	return text[:50] + " ... " + text[len(text)-50:]
}

func holdProgram(t *testing.T, text string, want api.Program) {
	t.Helper()
	got, fault := Parse(text)
	if fault != (api.Fault{}) || !tree.Eq(got, want) {
		t.Errorf("P4.1: Parse(%q) = %+v, %v; want %+v and no fault", short(text), got, fault, want)
	}
	if !tree.May(got) {
		t.Errorf("P4.1: tree.May refuses what Parse(%q) answers", short(text))
	}
}

// holdGood holds that a text is parsed to a program that may be, and answers it.
func holdGood(t *testing.T, text string) api.Program {
	t.Helper()
	got, fault := Parse(text)
	if fault != (api.Fault{}) || !tree.May(got) {
		t.Errorf("P4.1: Parse(%q) has the fault %v, tree.May says %t", short(text), fault, tree.May(got))
	}
	return got
}

func holdFault(t *testing.T, text string, code api.Errno, at int) {
	t.Helper()
	got, fault := Parse(text)
	if fault != (api.Fault{Code: code, At: at}) {
		t.Errorf("P4.1: Parse(%q) has the fault %v; want {%d %d}", short(text), fault, code, at)
	}
	if !reflect.ValueOf(got).IsZero() {
		t.Errorf("P0.2: Parse(%q) answers %+v beside a fault", short(text), got)
	}
}

func holdExpr(t *testing.T, text string, want api.Expr) {
	t.Helper()
	got, fault := Expr(text)
	if fault != (api.Fault{}) || !sameExpr(got, want) {
		t.Errorf("P4.1: Expr(%q) = %+v, %v; want %+v and no fault", short(text), got, fault, want)
	}
	if !tree.MayExpr(got) {
		t.Errorf("P4.1: tree.MayExpr refuses what Expr(%q) answers", short(text))
	}
	holdProgram(t, "proc a(){print "+text+";}", printing(want))
}

func holdExprFault(t *testing.T, text string, code api.Errno, at int) {
	t.Helper()
	got, fault := Expr(text)
	if fault != (api.Fault{Code: code, At: at}) {
		t.Errorf("P4.1: Expr(%q) has the fault %v; want {%d %d}", short(text), fault, code, at)
	}
	if !reflect.ValueOf(got).IsZero() {
		t.Errorf("P0.2: Expr(%q) answers %+v beside a fault", short(text), got)
	}
}

// holdAt holds the fault of a text at the place that a ^ in it marks, which is taken out.
func holdAt(t *testing.T, marked string, code api.Errno) {
	t.Helper()
	at := strings.Index(marked, "^")
	holdFault(t, marked[:at]+marked[at+1:], code, at)
}

// holdExprAt holds the fault of an expression's text, marked as for holdAt.
func holdExprAt(t *testing.T, marked string, code api.Errno) {
	t.Helper()
	at := strings.Index(marked, "^")
	holdExprFault(t, marked[:at]+marked[at+1:], code, at)
}

// visit calls do for v and for each field and element in it.
func visit(v reflect.Value, path string, do func(path string, v reflect.Value)) {
	do(path, v)
	switch v.Kind() {
	case reflect.Struct:
		for i := range v.NumField() {
			visit(v.Field(i), path+"."+v.Type().Field(i).Name, do)
		}
	case reflect.Slice:
		// The unused room is gone through too.
		for i := range v.Cap() {
			visit(v.Slice(0, v.Cap()).Index(i), path+"["+strconv.Itoa(i)+"]", do)
		}
	}
}

type span struct {
	path     string
	from, to uintptr
}

func textSpan(path, s string) span {
	from := uintptr(unsafe.Pointer(unsafe.StringData(s)))
	return span{path, from, from + uintptr(len(s))}
}

// spans answers the memory of all slices, to the ends of their capacities, and of all strings in x.
func spans(x any) []span {
	var out []span
	visit(reflect.ValueOf(x), "", func(path string, v reflect.Value) {
		switch v.Kind() {
		case reflect.Slice:
			if v.Cap() > 0 {
				out = append(out, span{path, v.Pointer(), v.Pointer() + uintptr(v.Cap())*v.Type().Elem().Size()})
			}
		case reflect.String:
			if v.Len() > 0 {
				out = append(out, textSpan(path, v.String()))
			}
		}
	})
	return out
}

// holdApart holds that no two of some spans meet.
func holdApart(t *testing.T, all []span) {
	t.Helper()
	slices.SortFunc(all, func(a, b span) int {
		if a.from < b.from {
			return -1
		}
		return 1
	})
	for i := 1; i < len(all); i++ {
		if all[i-1].to > all[i].from {
			t.Errorf("P0.3: %s and %s share memory", all[i-1].path, all[i].path)
		}
	}
}

func digits(n int64) string { return strconv.FormatInt(n, 10) }
