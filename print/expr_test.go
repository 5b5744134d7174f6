package print

import (
	"math"
	"slices"
	"strconv"
	"strings"
	"testing"

	"whittler/api"
	"whittler/parse"
)

func TestNumbers(t *testing.T) {
	for _, c := range []struct {
		n    int64
		want string
	}{
		{0, "0"}, {1, "1"}, {7, "7"}, {9, "9"}, {10, "10"}, {99, "99"}, {100, "100"}, {101, "101"}, {1000000, "1000000"}, {255, "255"}, {256, "256"}, {1<<31 - 1, "2147483647"}, {1 << 31, "2147483648"}, {1 << 32, "4294967296"}, {1 << 53, "9007199254740992"}, {1<<53 + 1, "9007199254740993"}, {most - 1, "9223372036854775806"}, {most, "9223372036854775807"},
	} {
		holdExpr(t, num(c.n), c.want)
		holdExpr(t, one(api.XNeg, num(c.n)), "-"+c.want)
		holdExpr(t, two(api.XAdd, num(c.n), num(c.n)), c.want+" + "+c.want)
	}
	for n := range int64(1200) {
		holdExpr(t, num(n), strconv.FormatInt(n, 10))
	}
}

func TestNames(t *testing.T) {
	for _, s := range []string{"a", "z", "a0", "z9", "abcdefgh", "a1234567", "iff", "main", "els", "printx", "whil", "ref1", "vars"} {
		holdExpr(t, name(s), s)
		holdExpr(t, one(api.XNot, name(s)), "!"+s)
		holdExpr(t, two(api.XSub, name(s), name(s)), s+" - "+s)
	}
}

func TestUnaryOperators(t *testing.T) {
	for _, outer := range unary {
		sign := signOf[outer]
		holdExpr(t, one(outer, name("a")), sign+"a")
		holdExpr(t, one(outer, num(0)), sign+"0")
		holdExpr(t, one(outer, num(most)), sign+"9223372036854775807")
		for _, inner := range unary {
			holdExpr(t, one(outer, one(inner, name("a"))), sign+signOf[inner]+"a")
			holdExpr(t, one(outer, one(inner, num(5))), sign+signOf[inner]+"5")
			for _, last := range unary {
				holdExpr(t, one(outer, one(inner, one(last, name("a")))), sign+signOf[inner]+signOf[last]+"a")
			}
			for _, op := range binary {
				holdExpr(t, one(outer, one(inner, two(op, name("a"), num(1)))), sign+signOf[inner]+"(a "+signOf[op]+" 1)")
			}
		}
		for _, op := range binary {
			holdExpr(t, one(outer, two(op, name("a"), name("b"))), sign+"(a "+signOf[op]+" b)")
		}
	}
}

func TestBinaryOperators(t *testing.T) {
	for _, c := range []struct {
		op   int
		want string
	}{
		{api.XMul, "a * b"}, {api.XDiv, "a / b"}, {api.XRem, "a % b"}, {api.XAdd, "a + b"}, {api.XSub, "a - b"}, {api.XLess, "a < b"}, {api.XLessEq, "a <= b"}, {api.XMore, "a > b"}, {api.XMoreEq, "a >= b"}, {api.XEq, "a == b"}, {api.XNotEq, "a != b"}, {api.XAnd, "a && b"}, {api.XOr, "a || b"},
	} {
		holdExpr(t, two(c.op, name("a"), name("b")), c.want)
		holdExpr(t, two(c.op, num(1), num(2)), strings.NewReplacer("a", "1", "b", "2").Replace(c.want))
		for _, first := range unary {
			holdExpr(t, two(c.op, one(first, name("a")), name("b")), signOf[first]+c.want)
			holdExpr(t, two(c.op, name("a"), one(first, name("b"))), strings.Replace(c.want, "b", signOf[first]+"b", 1))
			for _, second := range unary {
				holdExpr(t, two(c.op, one(first, name("a")), one(second, name("b"))), signOf[first]+strings.Replace(c.want, "b", signOf[second]+"b", 1))
			}
		}
	}
}

// precedence tells how close the binary operators bind: the chapter's row, the closest first.
var precedence = [][]int{{api.XMul, api.XDiv, api.XRem}, {api.XAdd, api.XSub}, {api.XLess, api.XLessEq, api.XMore, api.XMoreEq}, {api.XEq, api.XNotEq}, {api.XAnd}, {api.XOr}}

func rank(op int) int {
	return slices.IndexFunc(precedence, func(row []int) bool { return slices.Contains(row, op) })
}

func TestEachPairOfOperators(t *testing.T) {
	a, b, c := name("a"), name("b"), name("c")
	enclosed := 0
	for _, first := range binary {
		for _, second := range binary {
			plain := "a " + signOf[first] + " b " + signOf[second] + " c"
			left, right := plain, plain
			if rank(first) > rank(second) {
				left = "(a " + signOf[first] + " b) " + signOf[second] + " c"
				enclosed++
			}
			if rank(second) >= rank(first) {
				right = "a " + signOf[first] + " (b " + signOf[second] + " c)"
				enclosed++
			}
			holdExpr(t, two(second, two(first, a, b), c), left)
			holdExpr(t, two(first, a, two(second, b, c)), right)
		}
	}
	// Of 13 operators in groups of 3, 2, 4, 2, 1, 1 there are 169 pairs, 35 of them in one group.
	if enclosed != (169-35)/2+(169-35)/2+35 {
		t.Errorf("%d operands in parentheses", enclosed)
	}
}

func TestLevelsByHand(t *testing.T) {
	for _, c := range []struct{ text, want string }{
		{"a-(b-c)", "a - (b - c)"}, {"a-b-c", "a - b - c"}, {"((((a))))", "a"}, {"(1)", "1"}, {"-(-(-(1)))", "---1"}, {"!(-(a))", "!-a"},
		{"(a*b)/c", "a * b / c"}, {"a*(b/c)", "a * (b / c)"}, {"a/(b*c)", "a / (b * c)"}, {"(a%b)%c", "a % b % c"}, {"a%(b%c)", "a % (b % c)"},
		{"(a+b)-c", "a + b - c"}, {"a+(b-c)", "a + (b - c)"}, {"a+(b+c)", "a + (b + c)"}, {"(a*b)+(c/d)", "a * b + c / d"}, {"(a+b)*(c-d)", "(a + b) * (c - d)"},
		{"(a<b)<c", "a < b < c"}, {"a<(b<c)", "a < (b < c)"}, {"a<=(b>c)", "a <= (b > c)"}, {"(a>=b)>c", "a >= b > c"}, {"(a+b)<(c*d)", "a + b < c * d"}, {"a+(b<c)", "a + (b < c)"},
		{"(a==b)!=c", "a == b != c"}, {"a==(b!=c)", "a == (b != c)"}, {"(a<b)==(c>d)", "a < b == c > d"}, {"(a==b)<c", "(a == b) < c"}, {"a<(b==c)", "a < (b == c)"},
		{"(a&&b)&&c", "a && b && c"}, {"a&&(b&&c)", "a && (b && c)"}, {"(a==b)&&(c!=d)", "a == b && c != d"}, {"(a&&b)==c", "(a && b) == c"},
		{"(a||b)||c", "a || b || c"}, {"a||(b||c)", "a || (b || c)"}, {"(a&&b)||(c&&d)", "a && b || c && d"}, {"(a||b)&&(c||d)", "(a || b) && (c || d)"},
		{"-(a)-(-(b))", "-a - -b"}, {"(-a)*b", "-a * b"}, {"-(a*b)", "-(a * b)"}, {"!(a==b)", "!(a == b)"}, {"(!a)==b", "!a == b"}, {"!(!(a||b))", "!!(a || b)"},
		{"a||b&&c==d<e+f*-g", "a || b && c == d < e + f * -g"}, {"-(a*(b+(c<(d==(e&&(f||g))))))", "-(a * (b + (c < (d == (e && (f || g))))))"}, {"(((((a*b)+c)<d)==e)&&f)||g", "a * b + c < d == e && f || g"}, {"((((((a||b)&&c)==d)<e)+f)*g)", "(((((a || b) && c) == d) < e) + f) * g"},
		{"a-(b)-(c-(d)-e)", "a - b - (c - d - e)"}, {"a*(b*(c*d))", "a * (b * (c * d))"}, {"((a-b)-(c-d))-(e-f)", "a - b - (c - d) - (e - f)"},
	} {
		x, fault := parse.Expr(c.text)
		if fault != (api.Fault{}) {
			t.Fatalf("parse.Expr(%q) has the fault %v", c.text, fault)
		}
		holdExpr(t, x, c.want)
	}
}

func TestDepth(t *testing.T) {
	many := strings.Repeat
	for _, c := range []struct {
		grow func(x api.Expr) api.Expr
		want func(n int) string
	}{
		{func(x api.Expr) api.Expr { return one(api.XNeg, x) }, func(n int) string { return many("-", n) + "a" }},
		{func(x api.Expr) api.Expr { return one(api.XNot, x) }, func(n int) string { return many("!", n) + "a" }},
		{func(x api.Expr) api.Expr { return two(api.XSub, x, num(1)) }, func(n int) string { return "a" + many(" - 1", n) }},
		{func(x api.Expr) api.Expr { return two(api.XOr, name("b"), x) }, func(n int) string { return many("b || (", n-1) + "b || a" + many(")", n-1) }},
	} {
		x := name("a")
		for depth := 2; depth <= 40; depth++ {
			x = c.grow(x)
			if depth <= api.MaxDeep {
				holdExpr(t, x, c.want(depth-1))
			} else {
				holdNoExpr(t, x, "one of the depth "+strconv.Itoa(depth))
			}
		}
	}
}

func TestExpressionsThatAreNotWellFormed(t *testing.T) {
	a := name("a")
	for _, op := range []int{0, -1, -2, 18, 19, 100, math.MinInt, math.MaxInt, 1 << 32, 1<<32 + 1, 1<<32 + 2, 1<<32 + 3, 1<<32 + 8} {
		for _, x := range []api.Expr{{Op: op}, {Op: op, N: 1}, {Op: op, Name: "a"}, one(op, a), two(op, a, a)} {
			holdNoExpr(t, x, "an operator that is none")
		}
	}
	for _, n := range []int64{-1, -2, -10, math.MinInt64, math.MinInt64 + 1} {
		holdNoExpr(t, num(n), "a number below 0")
	}
	for _, s := range []string{"", "if", "while", "print", "global", "A", "aB", "1", "1a", "a b", " a", "a ", "a\n", "a;", "a-b", "abcdefghi", "\xff", "é", "a_", "$in", "$ret", strings.Repeat("a", 5000)} {
		holdNoExpr(t, name(s), "the name "+s)
	}
	for _, n := range []int64{1, -1, math.MaxInt64, math.MinInt64} {
		holdNoExpr(t, api.Expr{Op: api.XName, Name: "a", N: n}, "a name with an N")
		for _, op := range unary {
			holdNoExpr(t, api.Expr{Op: op, N: n, Kids: []api.Expr{a}}, "an operator with an N")
		}
		for _, op := range binary {
			holdNoExpr(t, api.Expr{Op: op, N: n, Kids: []api.Expr{a, a}}, "an operator with an N")
		}
	}
	holdNoExpr(t, api.Expr{Op: api.XNumber, Name: "a"}, "a number with a name")
	for _, op := range unary {
		holdNoExpr(t, api.Expr{Op: op, Name: "a", Kids: []api.Expr{a}}, "an operator with a name")
	}
	for _, op := range binary {
		holdNoExpr(t, api.Expr{Op: op, Name: "a", Kids: []api.Expr{a, a}}, "an operator with a name")
	}
}

func TestKidsThatAreNotWellFormed(t *testing.T) {
	for op := api.XNumber; op <= api.XOr; op++ {
		x := api.Expr{Op: op}
		if op == api.XName {
			x.Name = "a"
		}
		right := 2
		if slices.Contains(unary, op) {
			right = 1
		} else if op < api.XMul {
			right = 0
		}
		for kids := range 5 {
			x.Kids = slices.Repeat([]api.Expr{num(1)}, kids)
			if kids != right {
				holdNoExpr(t, x, "an expression with "+strconv.Itoa(kids)+" kids")
				continue
			}
			if Expr(x) == "" {
				t.Errorf("P5.1: no text of %v", x)
			}
			for i := range kids {
				for _, bad := range []api.Expr{{}, num(-1), name(""), name("if"), one(api.XAdd, num(1)), two(api.XNeg, num(1), num(1))} {
					x.Kids = slices.Repeat([]api.Expr{num(1)}, kids)
					x.Kids[i] = bad
					holdNoExpr(t, x, "a kid that is none")
				}
			}
		}
	}
}

func TestExpressionsThatContainThemselves(t *testing.T) {
	for kids := 1; kids <= 2; kids++ {
		for at := range kids {
			loop := slices.Repeat([]api.Expr{num(1)}, kids)
			loop[at] = api.Expr{Op: 2 + 2*kids, Kids: loop}
			if got := Expr(loop[at]); got != "" {
				t.Errorf("P5.1: Expr of what contains itself = %q", got)
			}
			holdNoText(t, api.Program{Procs: []api.Proc{{Name: "p", Body: []api.Stmt{{Id: 1, Kind: api.SPrint, X: loop[at]}}}}}, "an X that contains itself")
		}
	}
	deep := name("a")
	for range 300000 {
		deep = one(api.XNeg, deep)
	}
	if got := Expr(deep); got != "" {
		t.Errorf("P5.1: Expr of a very deep expression has %d bytes", len(got))
	}
}

func TestTheGreatestExpression(t *testing.T) {
	x, size := name("a"), 1
	for depth := 2; depth <= api.MaxDeep; depth++ {
		x = two(api.XAdd, x, x)
		size = 2*size + len(" + ")
		if depth > 2 {
			size += len("()")
		}
	}
	text := Expr(x)
	if len(text) != size || strings.Count(text, "a") != 1<<19 || !strings.HasPrefix(text, "a + a + (a + a) + (a + a + (a + a)) + (") {
		t.Errorf("P5.1: the text of the greatest expression has %d bytes; want %d: %q", len(text), size, short(text))
	}
	if got := Text(printing(x)); got != "proc p() {\n print "+text+";\n}\n" {
		t.Errorf("P5.2: a statement with the greatest expression is %q", short(got))
	}
}
