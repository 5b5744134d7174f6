package parse

import (
	"math"
	"strings"
	"testing"

	"whittler/api"
	"whittler/tree"
)

// ordinary is a text with every kind of statement, label, parameter and argument.
const ordinary = `# a program
global g, h;
global i;
proc main() {
	var x, y; var z;
	l: read x;
	m: n: if (x < 7) {
		while (y) { break; o: continue; }
		print -(x + g);
	} else {
		goto e;
	}
	y = f(ref x, 2 * h);
	k();
	z = x;
	if (1) { } else { }
	e: end:
}
proc f(ref a, b) {
	var v;
	a = b;
	return v || 0;
}
proc k() { return; }
`

func ordinaryTree() api.Program {
	return api.Program{Globals: []string{"g", "h", "i"}, Procs: []api.Proc{
		{Name: "main", Vars: []string{"x", "y", "z"}, Body: []api.Stmt{
			{Id: 1, Kind: api.SRead, Labels: []string{"l"}, Name: "x"},
			{Id: 2, Kind: api.SIf, Labels: []string{"m", "n"}, X: two(api.XLess, name("x"), num(7)), Then: []api.Stmt{
				{Id: 3, Kind: api.SWhile, X: name("y"), Then: []api.Stmt{
					{Id: 4, Kind: api.SBreak},
					{Id: 5, Kind: api.SContinue, Labels: []string{"o"}},
				}},
				{Id: 6, Kind: api.SPrint, X: one(api.XNeg, two(api.XAdd, name("x"), name("g")))},
			}, Else: []api.Stmt{
				{Id: 7, Kind: api.SGoto, Name: "e"},
			}},
			{Id: 8, Kind: api.SCall, Name: "y", Proc: "f", Args: []api.Arg{{Ref: true, Name: "x"}, {X: two(api.XMul, num(2), name("h"))}}},
			{Id: 9, Kind: api.SCall, Proc: "k"},
			{Id: 10, Kind: api.SAssign, Name: "z", X: name("x")},
			{Id: 11, Kind: api.SIf, X: num(1)},
		}, End: []string{"e", "end"}},
		{Name: "f", Params: []api.Param{{Name: "a", Ref: true}, {Name: "b"}}, Vars: []string{"v"}, Body: []api.Stmt{
			{Id: 12, Kind: api.SAssign, Name: "a", X: name("b")},
			{Id: 13, Kind: api.SReturn, Has: true, X: two(api.XOr, name("v"), num(0))},
		}},
		{Name: "k", Body: []api.Stmt{{Id: 14, Kind: api.SReturn}}},
	}}
}

func TestOrdinaryProgram(t *testing.T) {
	holdProgram(t, ordinary, ordinaryTree())
	holdProgram(t, "", api.Program{})
	holdProgram(t, " \t\r\n# nothing", api.Program{})
	holdProgram(t, "global a;", api.Program{Globals: []string{"a"}})
	holdProgram(t, "global a,b,a;global b;", api.Program{Globals: []string{"a", "b", "a", "b"}})
	holdProgram(t, "proc a(){}", api.Program{Procs: []api.Proc{{Name: "a"}}})
	holdProgram(t, "proc a(){}proc a(){}", api.Program{Procs: []api.Proc{{Name: "a"}, {Name: "a"}}})
	holdProgram(t, "proc abcdefgh(ref b1,c,ref d){var c,c;var e;}", api.Program{Procs: []api.Proc{{
		Name: "abcdefgh", Params: []api.Param{{Name: "b1", Ref: true}, {Name: "c"}, {Name: "d", Ref: true}}, Vars: []string{"c", "c", "e"},
	}}})
}

// body answers a program of one procedure a.
func body(stmts ...api.Stmt) api.Program {
	return api.Program{Procs: []api.Proc{{Name: "a", Body: stmts}}}
}

func TestStatements(t *testing.T) {
	ref, sum := api.Arg{Ref: true, Name: "x"}, api.Arg{X: two(api.XAdd, name("x"), num(1))}
	for _, c := range []struct {
		text string
		want api.Stmt
	}{
		{"x=1;", api.Stmt{Kind: api.SAssign, Name: "x", X: num(1)}},
		{"x=f;", api.Stmt{Kind: api.SAssign, Name: "x", X: name("f")}},
		{"x=(f);", api.Stmt{Kind: api.SAssign, Name: "x", X: name("f")}},
		{"x=f==y;", api.Stmt{Kind: api.SAssign, Name: "x", X: two(api.XEq, name("f"), name("y"))}},
		{"x=x+1;", api.Stmt{Kind: api.SAssign, Name: "x", X: sum.X}},
		{"x=-f;", api.Stmt{Kind: api.SAssign, Name: "x", X: one(api.XNeg, name("f"))}},
		{"f();", api.Stmt{Kind: api.SCall, Proc: "f"}},
		{"f(x+1);", api.Stmt{Kind: api.SCall, Proc: "f", Args: []api.Arg{sum}}},
		{"f(x);", api.Stmt{Kind: api.SCall, Proc: "f", Args: []api.Arg{{X: name("x")}}}},
		{"f((x));", api.Stmt{Kind: api.SCall, Proc: "f", Args: []api.Arg{{X: name("x")}}}},
		{"f(ref x);", api.Stmt{Kind: api.SCall, Proc: "f", Args: []api.Arg{ref}}},
		{"f(ref x,x+1,ref x);", api.Stmt{Kind: api.SCall, Proc: "f", Args: []api.Arg{ref, sum, ref}}},
		{"x=f();", api.Stmt{Kind: api.SCall, Name: "x", Proc: "f"}},
		{"x=f(x+1,ref x);", api.Stmt{Kind: api.SCall, Name: "x", Proc: "f", Args: []api.Arg{sum, ref}}},
		{"x=x(x);", api.Stmt{Kind: api.SCall, Name: "x", Proc: "x", Args: []api.Arg{{X: name("x")}}}},
		{"read x;", api.Stmt{Kind: api.SRead, Name: "x"}},
		{"print x;", api.Stmt{Kind: api.SPrint, X: name("x")}},
		{"print(x);", api.Stmt{Kind: api.SPrint, X: name("x")}},
		{"print(x)+1;", api.Stmt{Kind: api.SPrint, X: sum.X}},
		{"break;", api.Stmt{Kind: api.SBreak}},
		{"continue;", api.Stmt{Kind: api.SContinue}},
		{"return;", api.Stmt{Kind: api.SReturn}},
		{"return 0;", api.Stmt{Kind: api.SReturn, Has: true, X: num(0)}},
		{"return(x)+1;", api.Stmt{Kind: api.SReturn, Has: true, X: sum.X}},
		{"goto x;", api.Stmt{Kind: api.SGoto, Name: "x"}},
		{"if(x){}", api.Stmt{Kind: api.SIf, X: name("x")}},
		{"if((x)){}else{}", api.Stmt{Kind: api.SIf, X: name("x")}},
		{"if((x)+1){}", api.Stmt{Kind: api.SIf, X: sum.X}},
		{"if(x){break;}", api.Stmt{Kind: api.SIf, X: name("x"), Then: []api.Stmt{{Kind: api.SBreak}}}},
		{"if(x){}else{break;}", api.Stmt{Kind: api.SIf, X: name("x"), Else: []api.Stmt{{Kind: api.SBreak}}}},
		{"if(x){break;return;}else{continue;return;}", api.Stmt{Kind: api.SIf, X: name("x"), Then: []api.Stmt{{Kind: api.SBreak}, {Kind: api.SReturn}}, Else: []api.Stmt{{Kind: api.SContinue}, {Kind: api.SReturn}}}},
		{"if(x){if(1){}else{break;}}", api.Stmt{Kind: api.SIf, X: name("x"), Then: []api.Stmt{{Kind: api.SIf, X: num(1), Else: []api.Stmt{{Kind: api.SBreak}}}}}},
		{"while(x+1){}", api.Stmt{Kind: api.SWhile, X: sum.X}},
		{"while(x){break;while(1){}}", api.Stmt{Kind: api.SWhile, X: name("x"), Then: []api.Stmt{{Kind: api.SBreak}, {Kind: api.SWhile, X: num(1)}}}},
	} {
		holdProgram(t, "proc a(){"+c.text+"}", tree.Number(body(c.want)))
		labelled := c.want
		labelled.Labels = []string{"l", "x", "l"}
		holdProgram(t, "proc a(){l:x : l:"+c.text+"}", tree.Number(body(labelled)))
		holdProgram(t, "proc a(){"+c.text+"l:x:l:"+c.text+"}", tree.Number(body(c.want, labelled)))
		inner := api.Stmt{Kind: api.SIf, X: num(0), Then: []api.Stmt{c.want, labelled}, Else: []api.Stmt{labelled, c.want}}
		holdProgram(t, "proc a(){if(0){"+c.text+"l:x:l:"+c.text+"}else{l:x:l:"+c.text+c.text+"}"+c.text+"}", tree.Number(body(inner, c.want)))
	}
}

func TestIds(t *testing.T) {
	text := "proc a(){break;while(1){break;if(1){break;break;}else{break;}break;}}proc b(){}proc c(){if(1){}else{break;}break;}"
	brk := func(id int) api.Stmt { return api.Stmt{Id: id, Kind: api.SBreak} }
	inner := api.Stmt{Id: 4, Kind: api.SIf, X: num(1), Then: []api.Stmt{brk(5), brk(6)}, Else: []api.Stmt{brk(7)}}
	holdProgram(t, text, api.Program{Procs: []api.Proc{
		{Name: "a", Body: []api.Stmt{brk(1), {Id: 2, Kind: api.SWhile, X: num(1), Then: []api.Stmt{brk(3), inner, brk(8)}}}},
		{Name: "b"},
		{Name: "c", Body: []api.Stmt{{Id: 9, Kind: api.SIf, X: num(1), Else: []api.Stmt{brk(10)}}, brk(11)}},
	}})
}

func TestLabelsAtTheEnd(t *testing.T) {
	holdProgram(t, "proc a(){e:}", api.Program{Procs: []api.Proc{{Name: "a", End: []string{"e"}}}})
	holdProgram(t, "proc a(){e:d:e:}", api.Program{Procs: []api.Proc{{Name: "a", End: []string{"e", "d", "e"}}}})
	holdProgram(t, "proc a(){var x;e:}", api.Program{Procs: []api.Proc{{Name: "a", Vars: []string{"x"}, End: []string{"e"}}}})
	holdProgram(t, "proc a(){l:if(1){}e:}proc b(){d:}", api.Program{Procs: []api.Proc{
		{Name: "a", Body: []api.Stmt{{Id: 1, Kind: api.SIf, Labels: []string{"l"}, X: num(1)}}, End: []string{"e"}},
		{Name: "b", End: []string{"d"}},
	}})
	for _, head := range []string{"if(1){", "while(1){", "if(1){}else{", "while(1){if(1){", "if(1){break;"} {
		holdAt(t, "proc a(){"+head+"l:^}}", api.ErrParse)
		holdAt(t, "proc a(){"+head+"l:m:^}e:}", api.ErrParse)
	}
	holdAt(t, "proc a(){l:^var x;}", api.ErrParse)
	holdAt(t, "proc a(){l:^", api.ErrParse)
}

func TestExpressions(t *testing.T) {
	a, b, c := name("a"), name("b"), name("c")
	holdExpr(t, "0", num(0))
	holdExpr(t, "9223372036854775807", num(math.MaxInt64))
	holdExpr(t, "abcdefgh", name("abcdefgh"))
	holdExpr(t, "((a))", a)
	holdExpr(t, "-5", one(api.XNeg, num(5)))
	holdExpr(t, "a - b - c", two(api.XSub, two(api.XSub, a, b), c))
	holdExpr(t, "a < b < c", two(api.XLess, two(api.XLess, a, b), c))
	holdExpr(t, "a-(b-c)", two(api.XSub, a, two(api.XSub, b, c)))
	holdExpr(t, "a--b", two(api.XSub, a, one(api.XNeg, b)))
	holdExpr(t, "!!a!=!b", two(api.XNotEq, one(api.XNot, one(api.XNot, a)), one(api.XNot, b)))
	holdExpr(t, "-!-a", one(api.XNeg, one(api.XNot, one(api.XNeg, a))))
	holdExpr(t, "-(a)*b", two(api.XMul, one(api.XNeg, a), b))
	holdExpr(t, "-(a*b)", one(api.XNeg, two(api.XMul, a, b)))
	holdExpr(t, "(-a)*b", two(api.XMul, one(api.XNeg, a), b))
	holdExpr(t, "c * a + (b - c)", two(api.XAdd, two(api.XMul, c, a), two(api.XSub, b, c)))
	holdExpr(t, "a||b&&c==a<b+c*-a", two(api.XOr, a, two(api.XAnd, b, two(api.XEq, c, two(api.XLess, a, two(api.XAdd, b, two(api.XMul, c, one(api.XNeg, a))))))))
	holdExpr(t, "-a*b+c<a==b&&c||a", two(api.XOr, two(api.XAnd, two(api.XEq, two(api.XLess, two(api.XAdd, two(api.XMul, one(api.XNeg, a), b), c), a), b), c), a))
}

// levelOf answers how close an operator binds: the less, the closer.
func levelOf(op int) int {
	for k, ops := range binding {
		for _, o := range ops {
			if o == op {
				return k
			}
		}
	}
	return -1
}

func TestOperatorsInPairs(t *testing.T) {
	a, b, c := name("a"), name("b"), name("c")
	for first := api.XMul; first <= api.XOr; first++ {
		holdExpr(t, "a"+signOf[first]+"b", two(first, a, b))
		for _, sign := range []int{api.XNeg, api.XNot} {
			holdExpr(t, signOf[sign]+"a"+signOf[first]+"b", two(first, one(sign, a), b))
			holdExpr(t, "a"+signOf[first]+" "+signOf[sign]+"b", two(first, a, one(sign, b)))
			holdExpr(t, signOf[sign]+"(a"+signOf[first]+"b)", one(sign, two(first, a, b)))
		}
		for second := api.XMul; second <= api.XOr; second++ {
			left, right := two(second, two(first, a, b), c), two(first, a, two(second, b, c))
			want := left
			if levelOf(second) < levelOf(first) {
				want = right
			}
			holdExpr(t, "a"+signOf[first]+"b"+signOf[second]+"c", want)
			holdExpr(t, "(a"+signOf[first]+"b)"+signOf[second]+"c", left)
			holdExpr(t, "a"+signOf[first]+"(b"+signOf[second]+"c)", right)
		}
	}
}

func TestExamplesOfTheChapter(t *testing.T) {
	holdFault(t, "proc main() { x 1; }", api.ErrParse, 16)
	holdFault(t, "proc a(){print "+strings.Repeat("-", 20)+"1)", api.ErrLimit, 15)
}

func TestFaultsOfLex(t *testing.T) {
	for _, c := range []struct {
		text string
		code api.Errno
		at   int
	}{
		{"?", api.ErrLex, 0},
		{"proc proc ) 01", api.ErrLex, 12},
		{") ) ) &", api.ErrLex, 6},
		{"1 1 abcdefghi", api.ErrLimit, 4},
		{") 9223372036854775808", api.ErrLimit, 2},
		{strings.Repeat("-", 21) + "1 &", api.ErrLex, 23},
		{strings.Repeat("a", 100001), api.ErrLimit, 0},
		{strings.Repeat(" ", 100001), api.ErrLimit, 0},
		{strings.Repeat(")", 2001), api.ErrLimit, 2000},
		{strings.Repeat(")", 2001) + "?", api.ErrLimit, 2000},
	} {
		holdFault(t, c.text, c.code, c.at)
		holdExprFault(t, c.text, c.code, c.at)
	}
	holdFault(t, strings.Repeat(")", 2000), api.ErrParse, 0)
	holdProgram(t, strings.Repeat(" ", 100000), api.Program{})
}

func TestFaultAtEachPlace(t *testing.T) {
	for _, marked := range []string{
		"^a", "^1", "^{", "global^", "global ^;", "global ^if;", "global ^1;", "global a^", "global a ^b;", "global a^=1;", "global a,^", "global a,^;", "global a,^,b;", "global ^ref a;", "global a;^;", "global a; ^b;", "global a; ^var b;",
		"proc^", "proc ^(", "proc ^print(){}", "proc a^", "proc a^{}", "proc a ^b(){}", "proc a(^", "proc a(^,b){}", "proc a(^1){}", "proc a(b^", "proc a(b,^", "proc a(b,^){}", "proc a(b ^c){}", "proc a(b^;c){}", "proc a(ref^", "proc a(ref^){}", "proc a(ref ^ref b){}", "proc a(ref ^,b){}", "proc a(b ^ref){}", "proc a()^", "proc a()^;", "proc a() ^break;", "proc a(){^", "proc a(){^;}", "proc a(){^{}}", "proc a(){^1;}", "proc a(){^(a);}", "proc a(){^global b;}", "proc a(){^proc b(){}}", "proc a(){}^}", "proc a(){}^;", "proc a(){} ^global b;", "proc a(){} ^var b;", "proc a(){} ^a", "proc a(){^:}", "proc a(){^else{}}", "proc a(){^ref b;}",
		"proc a(){var^", "proc a(){var ^;}", "proc a(){var ^1;}", "proc a(){var b^", "proc a(){var b ^c;}", "proc a(){var b^=1;}", "proc a(){var b,^}", "proc a(){break;^var b;}",
		"proc a(){x^", "proc a(){x^;}", "proc a(){x ^1;}", "proc a(){x ^y;}", "proc a(){x^==1;}", "proc a(){x^+1;}", "proc a(){l:x^}", "proc a(){l:^:x=1;}", "proc a(){l:^1;}", "proc a(){if^:break;}",
		"proc a(){x=^", "proc a(){x=^;}", "proc a(){x= ^=1;}", "proc a(){x=^ref y;}", "proc a(){x=1^", "proc a(){x=1^}", "proc a(){x=1 ^1;}", "proc a(){x=y^=1;}", "proc a(){x=y^:1;}", "proc a(){x=1^(2);}", "proc a(){x=(f)^(2);}", "proc a(){x=-f^(2);}", "proc a(){x=y+f^(2);}", "proc a(){x=(f^(2));}", "proc a(){x=f(1)^+2;}", "proc a(){x=f()^=1;}", "proc a(){x=f()^}",
		"proc a(){f(^", "proc a(){f(^;}", "proc a(){f(^,1);}", "proc a(){f(1^", "proc a(){f(1^;}", "proc a(){f(1,^", "proc a(){f(1,^);}", "proc a(){f(1 ^2);}", "proc a(){f(1)^", "proc a(){f()^}", "proc a(){f()^=1;}", "proc a(){f()^+1;}", "proc a(){f()^();}", "proc a(){f(g^());}", "proc a(){f(ref^);}", "proc a(){f(ref ^1);}", "proc a(){f(ref ^(x));}", "proc a(){f(ref x^+1);}", "proc a(){f(ref x^(1));}", "proc a(){f(ref ^ref x);}", "proc a(){f(-^);}",
		"proc a(){if^", "proc a(){if ^1{}}", "proc a(){if(^){}}", "proc a(){if(1^", "proc a(){if(1^{}}", "proc a(){if(1)^", "proc a(){if(1)^;}", "proc a(){if(1)^break;}", "proc a(){if(1)^else{}}", "proc a(){if(1){^", "proc a(){if(1){^var x;}}", "proc a(){if(1){}^", "proc a(){if(1){}^;}", "proc a(){if(1){}else^", "proc a(){if(1){}else^;}", "proc a(){if(1){}else ^if(1){}}", "proc a(){if(1){}else{^", "proc a(){if(1){}else{}^else{}}", "proc a(){if(x^=1){}}", "proc a(){if(f^(1)){}}", "proc a(){if(^ref x){}}",
		"proc a(){while^", "proc a(){while ^1{}}", "proc a(){while(^){}}", "proc a(){while(1^;", "proc a(){while(1)^", "proc a(){while(1)^;}", "proc a(){while(1){}^else{}}", "proc a(){while(1){^{}}}",
		"proc a(){break^", "proc a(){break^}", "proc a(){break ^1;}", "proc a(){break ^l;}", "proc a(){continue^", "proc a(){continue^}", "proc a(){continue ^l;}", "proc a(){return^", "proc a(){return^}", "proc a(){return ^ref x;}", "proc a(){return^=1;}", "proc a(){return 1^}", "proc a(){return f^();}", "proc a(){goto^", "proc a(){goto^;}", "proc a(){goto ^1;}", "proc a(){goto ^if;}", "proc a(){goto l^:}", "proc a(){goto l ^m;}", "proc a(){read^", "proc a(){read^;}", "proc a(){read ^1;}", "proc a(){read ^(x);}", "proc a(){read x^,y;}", "proc a(){print^", "proc a(){print^;}", "proc a(){print ^print 1;}", "proc a(){print 1^,2;}", "proc a(){print 1^", "proc a(){print f^(1);}", "proc a(){print x^=1;}",
	} {
		holdAt(t, marked, api.ErrParse)
	}
	for _, marked := range []string{
		"^", "^)", "^if", "^ref a", "^;", "^*a", "1 ^2", "1 ^a", "a ^1", "a^)", "a^;", "a^=b", "f^(1)", "1^(1)", "a^!b", "a^!", "a+^", "a+^*b", "a+^)", "a<^<b", "a<=^=b", "-^", "!^", "-^)", "- ^print", "(^", "(^)", "(a^", "(a^;", "(a+^)", "((a)^", "(a)^(b)", "(a)^b", "a^,", "a^{", "a^:",
	} {
		holdExprAt(t, marked, api.ErrParse)
	}
}
