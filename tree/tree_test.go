package tree

import (
	"math"
	"reflect"
	"runtime"
	"runtime/debug"
	"slices"
	"strconv"
	"strings"
	"testing"
	"unsafe"

	"whittler/api"
)

func address(s string) uintptr { return uintptr(unsafe.Pointer(unsafe.StringData(s))) }

func TestNames(t *testing.T) {
	c, a, b := name("c"), name("a"), name("b")
	for _, row := range []struct {
		x    api.Expr
		want string
	}{
		{num(0), ""}, {a, "a"}, {one(api.XNeg, b), "b"}, {two(api.XAdd, num(1), num(2)), ""},
		{two(api.XAdd, two(api.XMul, c, a), two(api.XSub, b, c)), "c a b"},
		{two(api.XAdd, a, a), "a"}, {two(api.XLess, b, a), "b a"}, {two(api.XOr, num(1), two(api.XAnd, one(api.XNot, c), two(api.XEq, a, c))), "c a"},
		{two(api.XSub, two(api.XSub, two(api.XSub, c, b), a), name("d")), "c b a d"}, {two(api.XSub, c, two(api.XSub, b, two(api.XSub, a, name("d")))), "c b a d"},
		{api.Expr{}, ""}, {name("if"), ""}, {name(""), ""}, {two(api.XAdd, a, num(-1)), ""}, {two(api.XAdd, num(-1), a), ""}, {two(api.XNeg, a, b), ""}, {one(api.XMul, a), ""},
		{api.Expr{Op: api.XNumber, Name: "a"}, ""}, {api.Expr{Op: api.XName, Name: "a", Kids: []api.Expr{b}}, ""}, {two(18, a, b), ""},
		{chain(20, 0), "a"}, {chain(20, 1), "a"}, {chain(21, 0), ""}, {chain(21, 2), ""}, {chain(100000, 1), ""},
	} {
		if got := Names(row.x); !slices.Equal(got, strings.Fields(row.want)) {
			t.Errorf("P3.2: Names(%v) = %q; want %q", row.x.Op, got, row.want)
		}
	}
}

func TestManyNames(t *testing.T) {
	var want []string
	var grow func(depth int) api.Expr
	grow = func(depth int) api.Expr {
		if depth == 1 {
			want = append(want, "n"+strconv.Itoa(len(want)))
			return name(want[len(want)-1])
		}
		left := grow(depth - 1)
		return two(api.XAdd, left, grow(depth-1))
	}
	x := grow(18)
	if got := Names(two(api.XMul, x, x)); !slices.Equal(got, want) {
		t.Errorf("P3.2: Names of %d names answers %d", len(want), len(got))
	}
}

// ids answers the ids of p in the order of the numbering, by a recursion.
func ids(p api.Program) []int {
	var out []int
	var block func(list []api.Stmt)
	block = func(list []api.Stmt) {
		for _, s := range list {
			out = append(out, s.Id)
			block(s.Then)
			block(s.Else)
		}
	}
	for _, proc := range p.Procs {
		block(proc.Body)
	}
	return out
}

// blank answers p with 0 for each id.
func blank(p api.Program) api.Program {
	p = snapshot(p)
	within(&p, func(path string, v reflect.Value) {
		if strings.HasSuffix(path, ".Id") {
			v.SetInt(0)
		}
	})
	return p
}

func holdNumber(t *testing.T, p api.Program) {
	t.Helper()
	q := Number(p)
	var want []int
	for i := range ids(p) {
		want = append(want, i+1)
	}
	if got := ids(q); !slices.Equal(got, want) {
		t.Errorf("P3.2: Number's ids are %v; want %v", got, want)
	}
	if !reflect.DeepEqual(blank(q), blank(p)) {
		t.Errorf("P3.2: Number(%v) changes more than ids: %v", p, q)
	}
	if got := Count(p); got != len(want) {
		t.Errorf("P3.2: Count = %d; want %d", got, len(want))
	}
}

func TestNumberAndCount(t *testing.T) {
	for _, p := range []api.Program{{}, ordinary(), blank(ordinary()), odd(), blank(odd()), empties(odd(), true), empties(odd(), false), {Procs: []api.Proc{{}, {Body: []api.Stmt{{}}}, {}}}} {
		holdNumber(t, p)
		holdNumber(t, Number(p))
	}
	if q := Number(blank(ordinary())); !reflect.DeepEqual(empties(q, true), empties(ordinary(), true)) {
		t.Errorf("P3.2: Number of the ordinary program without ids = %v", q)
	}
	if got := Count(ordinary()); got != 12 {
		t.Errorf("P3.2: Count of the ordinary program = %d", got)
	}
	if got := Count(odd()); got != 17 {
		t.Errorf("P3.2: Count of the odd program = %d", got)
	}
}

func TestNumberOfWhatIsShared(t *testing.T) {
	block := []api.Stmt{{Kind: api.SBreak}, {Kind: api.SBreak}}
	for range 3 {
		block = []api.Stmt{{Kind: api.SIf, X: num(1), Then: block, Else: block}}
	}
	p := api.Program{Procs: []api.Proc{{Name: "p", Body: block}, {Name: "q", Body: block}}}
	holdNumber(t, p)
	if got := Count(p); got != 46 {
		t.Errorf("P3.2: Count = %d; want 46", got)
	}
	holdMay(t, Number(p), true, "a program whose blocks were shared")
}

// first answers what Find is to answer, by a recursion.
func first(p api.Program, id int) (string, api.Stmt, bool) {
	var in func(list []api.Stmt) (api.Stmt, bool)
	in = func(list []api.Stmt) (api.Stmt, bool) {
		for _, s := range list {
			if s.Id == id {
				return s, true
			}
			if found, ok := in(slices.Concat(s.Then, s.Else)); ok {
				return found, true
			}
		}
		return api.Stmt{}, false
	}
	for _, proc := range p.Procs {
		if s, ok := in(proc.Body); ok {
			return proc.Name, s, true
		}
	}
	return "", api.Stmt{}, false
}

func TestFind(t *testing.T) {
	for _, p := range []api.Program{{}, ordinary(), blank(ordinary()), odd(), Number(odd())} {
		for _, id := range slices.Concat(ids(p), []int{0, -1, 1, 12, 13, 17, 18, math.MinInt, math.MaxInt}) {
			proc, s, ok := Find(p, id)
			wantProc, want, wantOk := first(p, id)
			if proc != wantProc || ok != wantOk || !reflect.DeepEqual(s, want) {
				t.Errorf("P3.2: Find %d = %q, %v, %t; want %q, %v, %t", id, proc, s, ok, wantProc, want, wantOk)
			}
		}
	}
}

func TestFindByHand(t *testing.T) {
	for id, want := range map[int]string{1: "main 2", 2: "main 5", 4: "main 7", 7: "main 10", 8: "main 4", 10: "f 1", 12: "k 9"} {
		if proc, s, ok := Find(ordinary(), id); !ok || proc+" "+strconv.Itoa(s.Kind) != want {
			t.Errorf("P3.2: Find %d = %q, %v, %t; want %s", id, proc, s, ok, want)
		}
	}
	for _, id := range []int{0, -1, 13, math.MinInt, math.MaxInt} {
		if proc, s, ok := Find(ordinary(), id); ok || proc != "" || !reflect.DeepEqual(s, api.Stmt{}) {
			t.Errorf("P3.2: Find %d = %q, %v, %t", id, proc, s, ok)
		}
	}
	p := api.Program{Procs: []api.Proc{{Name: "p", Body: []api.Stmt{
		{Id: 9, Kind: 1, Then: []api.Stmt{{Id: 5, Kind: 2}}, Else: []api.Stmt{{Id: 5, Kind: 3}, {Id: 4, Kind: 4}}}, {Id: 4, Kind: 5}, {Id: 9, Kind: 6}, {Id: 0, Kind: 7},
	}}, {Name: "q", Body: []api.Stmt{{Id: 5, Kind: 8}, {Id: -3, Kind: 9}}}}}
	for id, want := range map[int]string{9: "p 1", 5: "p 2", 4: "p 4", 0: "p 7", -3: "q 9"} {
		if proc, s, ok := Find(p, id); !ok || proc+" "+strconv.Itoa(s.Kind) != want {
			t.Errorf("P3.2: Find %d of several = %q, %v, %t; want %s", id, proc, s, ok, want)
		}
	}
}

// changes lists other values for a place: of a slice one element more, one less, and the order turned.
func changes(v reflect.Value) []reflect.Value {
	was := copied(v)
	switch v.Kind() {
	case reflect.Int, reflect.Int64:
		return []reflect.Value{reflect.ValueOf(v.Int() + 1).Convert(v.Type()), reflect.ValueOf(v.Int() ^ 1<<40).Convert(v.Type())}
	case reflect.String:
		return []reflect.Value{reflect.ValueOf(v.String() + "x"), reflect.ValueOf(v.String() + "\x00")}
	case reflect.Bool:
		return []reflect.Value{reflect.ValueOf(!v.Bool())}
	case reflect.Slice:
		out := []reflect.Value{reflect.Append(was, reflect.Zero(v.Type().Elem()))}
		if n := v.Len(); n > 0 {
			turned := copied(v)
			reflect.Swapper(turned.Interface())(0, n-1)
			out = append(out, was.Slice(0, n-1), was.Slice(1, n), turned)
		}
		return out
	}
	return nil
}

func TestEqInEveryField(t *testing.T) {
	for _, program := range []api.Program{ordinary(), odd()} {
		p, q, places := snapshot(program), snapshot(program), 0
		within(&q, func(path string, v reflect.Value) {
			was := copied(v)
			for _, other := range changes(v) {
				v.Set(other)
				want := reflect.DeepEqual(p, q)
				if Eq(p, q) != want || Eq(q, p) != want || !Eq(q, q) {
					t.Errorf("P3.2: Eq with another %s is not %t", path, want)
				}
				places++
			}
			v.Set(was)
		})
		if places < 200 || !Eq(p, q) {
			t.Errorf("P3.2: %d places changed, and Eq of the unchanged = %t", places, Eq(p, q))
		}
	}
}

func TestEqOfNilAndEmpty(t *testing.T) {
	for _, p := range []api.Program{{}, ordinary(), odd()} {
		without, with := empties(p, true), empties(p, false)
		for _, pair := range [][2]api.Program{{p, p}, {without, with}, {with, without}, {p, with}, {roomy(p), p}} {
			if !Eq(pair[0], pair[1]) {
				t.Errorf("P3.2: Eq of what differs in nil and empty slices alone = false")
			}
		}
	}
	if !Eq(api.Program{}, api.Program{Globals: []string{}, Procs: []api.Proc{}}) || Eq(api.Program{}, ordinary()) || Eq(ordinary(), odd()) {
		t.Error("P3.2: Eq of programs that have little in common")
	}
}

// These bodies have the same nodes in the same order, and differ in which node contains which.
func TestEqOfOtherNesting(t *testing.T) {
	inner := []api.Stmt{{Kind: api.SBreak}}
	bodies := [][]api.Stmt{
		{{Kind: api.SIf, Then: inner}, {Kind: api.SBreak}}, {{Kind: api.SIf, Else: inner}, {Kind: api.SBreak}},
		{{Kind: api.SIf}, {Kind: api.SBreak}, {Kind: api.SBreak}}, {{Kind: api.SIf, Then: inner, Else: inner}},
		{{Kind: api.SIf, Then: slices.Repeat(inner, 2)}}, {{Kind: api.SIf, Else: slices.Repeat(inner, 2)}},
		{{Kind: api.SIf, Then: []api.Stmt{{Kind: api.SBreak, Then: inner}}}}, {{Kind: api.SIf, X: api.Expr{Kids: []api.Expr{{Kids: []api.Expr{{}}}}}}}, {{Kind: api.SIf, X: api.Expr{Kids: []api.Expr{{}, {}}}}},
	}
	for i, a := range bodies {
		for j, b := range bodies {
			if got := Eq(api.Program{Procs: []api.Proc{{Body: a}}}, api.Program{Procs: []api.Proc{{Body: b}}}); got != (i == j) {
				t.Errorf("P3.2: Eq of the bodies %d and %d = %t", i, j, got)
			}
		}
	}
}

func TestArgumentsStay(t *testing.T) {
	for _, p := range []api.Program{ordinary(), odd()} {
		p = roomy(p)
		before := snapshot(p)
		May(p)
		Number(p)
		Count(p)
		Eq(p, p)
		for _, id := range ids(p) {
			Find(p, id)
		}
		within(&p, func(_ string, v reflect.Value) {
			if x, ok := v.Interface().(api.Expr); ok {
				MayExpr(x)
				Names(x)
			}
		})
		if !reflect.DeepEqual(snapshot(p), before) {
			t.Error("P0.3: an argument is changed")
		}
	}
}

func holdApart(t *testing.T, what string, result, argument []span) {
	t.Helper()
	if a, b, ok := meeting(result, argument, func(x, y string) bool { return false }); ok {
		t.Errorf("P0.3: %s shares its %s with the argument's %s", what, a, b)
	}
	if a, b, ok := meeting(result, result, func(x, y string) bool { return x == y }); ok {
		t.Errorf("P0.3: %s shares its %s with its own %s", what, a, b)
	}
}

func TestResultsShareNothing(t *testing.T) {
	block := ordinary().Procs[0].Body
	twice := api.Program{Globals: ordinary().Globals, Procs: []api.Proc{{Name: "p", Vars: ordinary().Globals, Body: block}, {Name: "p", Body: block, End: block[1].Labels}}}
	for _, p := range []api.Program{roomy(ordinary()), roomy(odd()), ordinary(), odd(), twice} {
		q := Number(p)
		holdApart(t, "Number", spans(&q), spans(&p))
		for _, id := range ids(p) {
			proc, s, _ := Find(p, id)
			holdApart(t, "Find's name", spans(&proc), spans(&p))
			holdApart(t, "Find's statement", spans(&s), spans(&p))
		}
		runtime.KeepAlive(p)
		runtime.KeepAlive(q)
	}
	x := two(api.XAdd, name("left"), two(api.XMul, name("right"), name("left")))
	names := Names(x)
	holdApart(t, "Names", spans(&names), spans(&x))
	if len(spans(&names)) != 3 || len(spans(&x)) != 5 {
		t.Errorf("P0.3: %d and %d pieces of memory", len(spans(&names)), len(spans(&x)))
	}
	runtime.KeepAlive(x)
}

// tower answers a program of n statements in one another, the first of which has an expression of n in one another.
func tower(n int, last int64) api.Program {
	x := num(last)
	for i := range n - 1 {
		x = []api.Expr{one(i, x), two(i, x, num(1)), two(i, num(1), x)}[i%3]
	}
	block := []api.Stmt{{Kind: api.SReturn, Has: true, X: num(last)}}
	for i := range n - 1 {
		if i%2 == 0 {
			block = []api.Stmt{{Kind: api.SIf, Then: block}, {Kind: api.SBreak}}[:1+i/2%2]
		} else {
			block = []api.Stmt{{Kind: api.SIf, Else: block}}
		}
	}
	block[0].X = x
	block[0].Args = []api.Arg{{X: x}}
	return api.Program{Procs: []api.Proc{{Name: "p", Body: block}}}
}

// A stack of calls of 1 MiB cannot hold a frame for each level of these towers.
func TestTowersNeedNoStack(t *testing.T) {
	defer debug.SetMaxStack(debug.SetMaxStack(1 << 20))
	const n = 50000
	p, other := tower(n, 1), tower(n, 2)
	q := Number(p)
	count := Count(p)
	if count < n || Count(q) != count {
		t.Errorf("P3.2: Count of a tower = %d", count)
	}
	for _, id := range []int{1, 2, n, count} {
		if proc, s, ok := Find(q, id); !ok || proc != "p" || s.Id != id {
			t.Errorf("P3.2: Find %d of a tower = %q, %d, %t", id, proc, s.Id, ok)
		}
	}
	if _, _, ok := Find(q, count+1); ok {
		t.Error("P3.2: Find of an id that a tower does not have")
	}
	if !Eq(q, Number(p)) || Eq(p, q) || !Eq(p, tower(n, 1)) || Eq(p, other) {
		t.Error("P3.2: Eq of towers")
	}
	other.Procs[0].Body[0].X, other.Procs[0].Body[0].Args = p.Procs[0].Body[0].X, p.Procs[0].Body[0].Args
	if Eq(p, other) {
		t.Error("P3.2: Eq of towers that differ in the innermost statement")
	}
	if May(p) || May(q) || MayExpr(p.Procs[0].Body[0].X) || len(Names(p.Procs[0].Body[0].X)) != 0 {
		t.Error("P3.1: a tower is well-formed")
	}
}

func TestWidePrograms(t *testing.T) {
	const n = 200000
	row := slices.Repeat([]api.Stmt{{Kind: api.SBreak}}, n)
	p := api.Program{Globals: slices.Repeat([]string{"g"}, n), Procs: []api.Proc{{Name: "p", Body: row}, {Name: "q", Body: []api.Stmt{{Then: row, Else: row}}}}}
	q := Number(p)
	if Count(p) != 3*n+1 || q.Procs[1].Body[0].Else[n-1].Id != 3*n+1 || May(q) {
		t.Error("P3.2: Number and Count of a wide program")
	}
	if proc, s, ok := Find(q, 2*n+2); !ok || proc != "q" || s.Kind != api.SBreak {
		t.Errorf("P3.2: Find in a wide program = %q, %v, %t", proc, s, ok)
	}
	wide := api.Expr{Op: api.XAdd, Kids: slices.Repeat([]api.Expr{num(1)}, n)}
	if MayExpr(wide) || len(Names(wide)) != 0 || !Eq(q, Number(q)) {
		t.Error("P3.1: a wide tree")
	}
}
