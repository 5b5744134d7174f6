package parse

import (
	"strings"
	"testing"

	"whittler/api"
)

// wrong tokens, of which the first does not fit where a limit is reached.
var behind = []string{"", " )", " 1 1", " if", " a a", ";", "}", " # x"}

// holdLimit holds that a text's last token is one too many, whatever stands behind it.
func holdLimit(t *testing.T, text, token string) {
	t.Helper()
	for _, rest := range behind {
		holdFault(t, text+token+rest, api.ErrLimit, len(text))
	}
}

func many(text string, n int) string { return strings.Repeat(text, n) }

// row answers n times the name b, with commas between.
func row(n int) string { return strings.TrimSuffix(many("b,", n), ",") }

// holdNames holds the limit of names: that most of them may be, that of the next one its name is
// told, and that what is no name there does not fit.
func holdNames(t *testing.T, head, tail string, most int) {
	t.Helper()
	holdGood(t, head+row(most)+tail)
	holdLimit(t, head+row(most)+",", "b")
	holdAt(t, head+row(most)+"^", api.ErrParse)
	holdAt(t, head+row(most)+",^", api.ErrParse)
	for _, token := range everyToken[1:] {
		if token != "ref" || !strings.HasSuffix(head, "(") {
			holdAt(t, head+row(most)+", ^"+token, api.ErrParse)
		}
	}
	holdAt(t, head+row(most)+",^"+row(5)+tail, api.ErrLimit)
}

func TestGlobalLimit(t *testing.T) {
	holdNames(t, "global ", ";", 16)
	holdNames(t, "global b,b;global ", ";", 14)
	holdNames(t, many("global b;", 15)+"global ", ";", 1)
	holdGood(t, many("global b;", 16))
	holdLimit(t, many("global b;", 16)+"global ", "b")
	holdAt(t, many("global b;", 16)+"global ^;", api.ErrParse)
	holdAt(t, many("global b;", 16)+"global^", api.ErrParse)
	holdLimit(t, "global "+row(16)+";global ", "b")
	// Variables and parameters are counted apart from globals.
	holdGood(t, "global "+row(16)+";proc a("+row(8)+"){var "+row(16)+";}proc a("+row(8)+"){var "+row(16)+";}")
}

func TestParamLimit(t *testing.T) {
	holdNames(t, "proc a(", "){}", 8)
	holdNames(t, "proc a("+row(8)+"){}proc a(", "){}", 8)
	holdGood(t, "proc a("+many("ref b,", 7)+"ref b){}")
	holdLimit(t, "proc a("+many("ref b,", 8), "b")
	holdLimit(t, "proc a("+many("ref b,", 8)+"ref ", "b")
	holdLimit(t, "proc a("+row(8)+",ref ", "b")
	holdAt(t, "proc a("+row(8)+",ref^", api.ErrParse)
	holdAt(t, "proc a("+row(8)+",ref ^ref b", api.ErrParse)
	holdAt(t, "proc a("+row(8)+",ref ^1", api.ErrParse)
	// The arguments of a call have no limit.
	p := holdGood(t, "proc a(){f("+row(500)+");}")
	if n := len(p.Procs[0].Body[0].Args); n != 500 {
		t.Errorf("P4.1: %d arguments of 500", n)
	}
}

func TestVarLimit(t *testing.T) {
	holdNames(t, "proc a(){var ", ";}", 16)
	holdNames(t, "proc a(){var b;var b,b;var ", ";}", 13)
	holdNames(t, "proc a(){var "+row(16)+";}proc a(b){var ", ";}", 16)
	holdGood(t, "proc a(){"+many("var b;", 16)+"}")
	holdLimit(t, "proc a(){"+many("var b;", 16)+"var ", "b")
	holdAt(t, "proc a(){"+many("var b;", 16)+"var ^;", api.ErrParse)
}

func TestProcLimit(t *testing.T) {
	holdGood(t, many("proc a(){}", 16))
	holdGood(t, "global b;"+many("proc a(){break;}", 16))
	holdLimit(t, many("proc a(){}", 16), "proc")
	holdLimit(t, many("proc a(){}", 16), "proc a(){}")
	holdLimit(t, "global b;"+many("proc a(b){l:}", 16), "proc")
	holdAt(t, many("proc a(){}", 16)+"^a", api.ErrParse)
	holdAt(t, many("proc a(){}", 16)+"^global", api.ErrParse)
	holdAt(t, many("proc a(){}", 15)+"proc^", api.ErrParse)
	holdFault(t, many("proc a(){}", 20), api.ErrLimit, 160)
}

// starts has the texts of statements, and behind those 13 some of which only the first token fits.
var starts = []string{"x=1;", "x=f();", "f();", "read x;", "print 1;", "break;", "continue;", "return;", "return 1;", "goto x;", "if(1){}", "if(1){}else{}", "while(1){}", "x;", "x 1", "x", "x}", "x)", "read;", "print)", "break", "return=", "goto", "if", "while{"}

func TestStatementLimit(t *testing.T) {
	for _, s := range starts[:13] {
		// The 400 tokens that 200 statements have at least leave no room for 200 long ones.
		p := holdGood(t, "proc a(){"+many(s, 100)+many("break;", 100)+"}")
		if last := p.Procs[0].Body[199].Id; last != 200 {
			t.Errorf("P4.1: the last of 200 statements has the id %d", last)
		}
	}
	full := "proc a(){" + many("break;", 200)
	holdGood(t, full+"}")
	holdGood(t, full+"l:m:}")
	holdGood(t, full+"}proc b(){l:}")
	for _, s := range starts {
		for _, head := range []string{full, full + "l:", full + "l:m : ", full + "}proc b(){", full + "e:}proc b(){var x;l:", "proc a(){" + many("break;", 199) + "if(1){", "proc a(){" + many("break;", 199) + "if(1){}else{l:", "proc a(){" + many("break;", 198) + "while(1){if(1){}}", "proc a(){" + many("break;", 198) + "while(1){if(1){", many("proc a(){"+many("break;", 20)+"}", 10) + "proc b(){"} {
			holdFault(t, head+s, api.ErrLimit, len(head))
			holdFault(t, head+s+"break;}", api.ErrLimit, len(head))
		}
	}
	for _, token := range everyToken[1:] {
		if !strings.Contains(" } if while break continue return goto read print ", " "+token+" ") {
			holdAt(t, full+"l:^"+token+"}", api.ErrParse)
		}
	}
	holdAt(t, full+"^;", api.ErrParse)
	holdAt(t, full+"^", api.ErrParse)
	holdAt(t, full+"l:^", api.ErrParse)
	holdAt(t, "proc a(){"+many("break;", 199)+"if(1){l:^}}", api.ErrParse)
	holdAt(t, "proc a(){"+many("break;", 200)+"}^break;", api.ErrParse)
	holdAt(t, "proc a(){"+many("break;", 199)+"^;break;break;", api.ErrParse)
}

func TestNestLimit(t *testing.T) {
	opens := []string{"if(1){", "if(1){}else{", "while(1){", "l:while(1){", "break;if(1){"}
	for _, open := range opens {
		for _, other := range opens {
			eleven, twelve := "proc a(){"+many(open, 10)+other, "proc a(){"+many(other, 6)+many(open, 6)
			for _, s := range starts[:13] {
				holdGood(t, eleven+s+many("}", 12))
				holdGood(t, eleven+s+many("}"+s, 11)+"}")
			}
			holdGood(t, twelve+many("}", 13))
			holdGood(t, twelve+many("}", 12)+twelve[9:]+many("}", 13))
			for _, s := range starts {
				holdFault(t, twelve+s, api.ErrLimit, len(twelve))
				holdFault(t, twelve+"l:m:"+s+"}", api.ErrLimit, len(twelve)+4)
			}
			holdAt(t, twelve+"l:^}", api.ErrParse)
			holdAt(t, twelve+"^;", api.ErrParse)
			holdAt(t, twelve+"^var x;", api.ErrParse)
			holdAt(t, twelve+"^", api.ErrParse)
		}
	}
	// What has been left again does not count.
	holdGood(t, "proc a(){"+many(many("while(1){", 12)+many("}", 12), 3)+"}"+"proc b(){"+many("while(1){", 11)+"break;"+many("}", 12))
	holdAt(t, "proc a(){"+many("while(1){", 12)+many("}", 12)+many("while(1){", 12)+"^while(1){}", api.ErrLimit)
	holdAt(t, "proc a(){"+many("while(1){", 11)+"if(1){}else{^break;}", api.ErrLimit)
	holdAt(t, "proc a(){"+many("while(1){", 11)+"if(1){^break;}else{;}", api.ErrLimit)
}

// deep answers texts of expressions of a depth, which is at least 4.
func deep(depth int) []string {
	n := depth - 1
	return []string{
		many("-", n) + "1",
		many("!", n) + "a",
		many("!-", n)[:n] + "(a)",
		"1" + many("+1", n),
		"1" + many("*a", n-1) + "||a",
		"1" + many("-(1", n) + many(")", n),
		"(((" + many("-", n) + "1)))",
		"(" + many("(", n) + "1" + many("<1)", n) + ")",
		many("-", n-1) + "(1+1)",
		many("(-", n) + "1" + many(")", n),
		many("!", n-3) + "1==1&&1||a",
		"a||1==" + many("-", n-2) + "1",
		"(1)" + many("%(2)", n),
	}
}

// whereExprs has the beginnings of programs behind which an expression stands, with what ends them.
var whereExprs = [][2]string{
	{"x=", ";"}, {"x = ", " ;"}, {"print ", ";"}, {"return ", ";"}, {"if(", "){}"}, {"if ( ", " ){}else{}"}, {"while(", "){}"}, {"f(", ");"}, {"f(1,", ");"}, {"f(", ",1);"}, {"f(ref x, ", ",ref x);"}, {"x=f(", ");"}, {"x=f(1,", ",1);"}, {"l:print ", ";"}, {"if(1){print ", ";}"}, {"while(1){}if(1){}else{x=", ";}"},
}

func TestDepthLimit(t *testing.T) {
	for depth := 4; depth <= 20; depth++ {
		for _, x := range deep(depth) {
			if _, fault := Expr(x); fault != (api.Fault{}) {
				t.Errorf("P4.1: Expr(%q) of depth %d has the fault %v", x, depth, fault)
			}
		}
	}
	for _, where := range whereExprs {
		head, tail := "proc a(){"+where[0], where[1]+"}"
		for _, x := range deep(20) {
			holdGood(t, head+x+tail)
			holdFault(t, head+x+" 1"+tail, api.ErrParse, len(head)+len(x)+1)
			holdFault(t, head+x, api.ErrParse, len(head)+len(x))
		}
		for _, depth := range []int{21, 22, 30, 300} {
			for _, x := range deep(depth) {
				holdDeepFault(t, head, x, tail)
			}
		}
	}
	for _, depth := range []int{21, 22, 30, 300, 400} {
		for _, x := range deep(depth) {
			for _, rest := range []string{"", " ", " 1", ")", ";", " = 1", " a", "(", "{", "!", ":", "# x"} {
				holdExprFault(t, " "+x+rest, api.ErrLimit, 1)
			}
		}
	}
}

// holdDeepFault holds that an expression that is too deep is told at its first token, whatever
// follows, if only it has come to its end.
func holdDeepFault(t *testing.T, head, x, tail string) {
	t.Helper()
	holdFault(t, head+x+tail, api.ErrLimit, len(head))
	for _, rest := range []string{"", " ", " 1", ":", " a", " =", "{", "}", "!", " ref", " proc", ",", ")", ";", "; ;"} {
		holdFault(t, head+x+rest, api.ErrLimit, len(head))
	}
	for _, rest := range []string{"+", "*", "||", "-", "<", "=="} {
		holdFault(t, head+x+rest, api.ErrParse, len(head)+len(x)+len(rest))
		holdFault(t, head+x+rest+";", api.ErrParse, len(head)+len(x)+len(rest))
		holdFault(t, head+x+rest+"1", api.ErrLimit, len(head))
	}
	for _, rest := range []string{"", ";", " 1", ",", "}"} {
		holdFault(t, head+"("+x+rest, api.ErrParse, len(head)+1+len(x)+len(rest)-len(strings.TrimLeft(rest, " ")))
	}
	holdFault(t, head+"("+x+")", api.ErrLimit, len(head))
}

func TestDepthLimitOfTheLeftmost(t *testing.T) {
	good, bad := many("-", 19)+"1", many("-", 20)+"1"
	holdAt(t, "proc a(){f("+good+",^"+bad+","+bad+");}", api.ErrLimit)
	holdAt(t, "proc a(){f(^"+bad+","+bad+");}", api.ErrLimit)
	holdAt(t, "proc a(){f("+good+",^,"+bad+");}", api.ErrParse)
	holdAt(t, "proc a(){f(ref ^"+bad+");}", api.ErrParse)
	holdAt(t, "proc a(){f(^"+bad+",ref 1);}", api.ErrLimit)
	holdAt(t, "proc a(){print ^"+bad+";print "+bad+";;", api.ErrLimit)
	holdAt(t, "proc a(){print "+good+";^;print "+bad+";", api.ErrParse)
	holdAt(t, "proc a(){"+many("break;", 199)+"print ^"+bad+";break;", api.ErrLimit)
	holdAt(t, "proc a(){"+many("break;", 200)+"^print "+bad+";", api.ErrLimit)
	holdAt(t, "proc a(){"+many("while(1){", 12)+"^print "+bad+";", api.ErrLimit)
	holdAt(t, "proc a(){"+many("while(1){", 11)+"while(^"+bad+"){break;", api.ErrLimit)
	// A limit ahead of another fault, and behind one.
	holdAt(t, "global "+row(16)+",^b;proc proc", api.ErrLimit)
	holdAt(t, "global "+row(16)+" ^b,b;proc", api.ErrParse)
	holdAt(t, "proc a("+row(8)+",^b){var "+row(17)+";}", api.ErrLimit)
	holdAt(t, "proc a("+row(8)+"){var "+row(16)+",^b;"+many("while(1){", 13), api.ErrLimit)
	holdAt(t, "proc a(){var ^;}proc a("+row(9)+")", api.ErrParse)
	holdAt(t, many("proc a(){}", 15)+"proc a(^1){}proc a(){}", api.ErrParse)
}
