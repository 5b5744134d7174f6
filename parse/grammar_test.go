package parse

import (
	"slices"
	"strings"
	"testing"

	"whittler/api"
	"whittler/lex"
)

// theGrammar is that of the chapter, with its repetitions and options written as rules. What is no
// rule's name stands for itself; name and number stand for a token of that kind.
const theGrammar = `
program = globals procs
globals = | globals global names ;
names = name | names , name
procs = | procs proc-rule
proc-rule = proc name ( params ) { vars items labels }
params = | param-list
param-list = param | param-list , param
param = name | ref name
vars = | vars var names ;
items = | items item
item = labels stmt
labels = | labels label
label = name :
block = { items }
stmt = name = expr ; | call ; | name = call ;
stmt = if ( expr ) block | if ( expr ) block else block | while ( expr ) block
stmt = break ; | continue ; | return ; | return expr ; | goto name ; | read name ; | print expr ;
call = name ( args )
args = | arg-list
arg-list = arg | arg-list , arg
arg = ref name | expr
expr = name | number | ( expr ) | - expr | ! expr | expr operator expr
operator = * | / | % | + | - | < | <= | > | >= | == | != | && | OR
`

type rule struct {
	head string
	body []string
}

// grammar recognizes by sets of rules that may be under way, Earley's way: it knows of each token
// whether it fits, whatever the grammar is like.
type grammar struct {
	rules map[string][]rule
	empty map[string]bool // what may be nothing at all
}

// state is a rule that is under way: how many of its parts have been met, since which token.
type state struct {
	head  string
	n     int // which of the head's rules
	dot   int
	since int
}

func newGrammar(text string) *grammar {
	g := &grammar{rules: map[string][]rule{}, empty: map[string]bool{}}
	for line := range strings.Lines(text) {
		head, bodies, ok := strings.Cut(line, " = ")
		if !ok {
			continue
		}
		for body := range strings.SplitSeq(bodies, "|") {
			// The sign of a pipe is the only token that || would be split by.
			parts := strings.Fields(strings.ReplaceAll(body, "OR", "||"))
			g.rules[head] = append(g.rules[head], rule{head, parts})
			if len(parts) == 0 {
				g.empty[head] = true
			}
		}
	}
	// The one rule of which all parts may be nothing.
	g.empty["program"] = true
	return g
}

func (g *grammar) body(s state) []string { return g.rules[s.head][s.n].body }

// chart has a set of states for each token that has been met, and one for the beginning.
type chart [][]state

// close adds what the states of the last set bring along.
func (g *grammar) close(c chart) {
	at := len(c) - 1
	met := map[state]bool{}
	add := func(s state) {
		if !met[s] {
			met[s] = true
			c[at] = append(c[at], s)
		}
	}
	begun := c[at]
	c[at] = nil
	for _, s := range begun {
		add(s)
	}
	for i := 0; i < len(c[at]); i++ {
		s := c[at][i]
		body := g.body(s)
		if s.dot < len(body) {
			for n := range g.rules[body[s.dot]] {
				add(state{body[s.dot], n, 0, at})
			}
			if g.empty[body[s.dot]] {
				add(state{s.head, s.n, s.dot + 1, s.since})
			}
			continue
		}
		for _, outer := range slices.Clone(c[s.since]) {
			if parts := g.body(outer); outer.dot < len(parts) && parts[outer.dot] == s.head {
				add(state{outer.head, outer.n, outer.dot + 1, outer.since})
			}
		}
	}
}

func (g *grammar) begin(head string) chart {
	c := chart{nil}
	for n := range g.rules[head] {
		c[0] = append(c[0], state{head, n, 0, 0})
	}
	g.close(c)
	return c
}

// next answers the chart with one more token; false if the token does not fit.
func (g *grammar) next(c chart, token string) (chart, bool) {
	var set []state
	for _, s := range c[len(c)-1] {
		if body := g.body(s); s.dot < len(body) && body[s.dot] == token && g.rules[token] == nil {
			set = append(set, state{s.head, s.n, s.dot + 1, s.since})
		}
	}
	if set == nil {
		return c, false
	}
	c = append(c[:len(c):len(c)], set)
	g.close(c)
	return c, true
}

// complete reports whether what has been met is a whole of the kind head.
func (g *grammar) complete(c chart, head string) bool {
	return slices.ContainsFunc(c[len(c)-1], func(s state) bool {
		return s.head == head && s.since == 0 && s.dot == len(g.body(s))
	})
}

// class answers what the grammar calls a token.
func class(t api.Token) string {
	switch t.Kind {
	case api.TName:
		return "name"
	case api.TNumber:
		return "number"
	}
	return t.Text
}

// misfit answers where the first token is that does not fit; false if there is none.
func (g *grammar) misfit(t *testing.T, text, head string) (int, bool) {
	t.Helper()
	tokens, fault := lex.All(text)
	if fault != (api.Fault{}) {
		t.Fatalf("lex.All(%q) has the fault %v", short(text), fault)
	}
	c := g.begin(head)
	for _, token := range tokens[:len(tokens)-1] {
		var ok bool
		if c, ok = g.next(c, class(token)); !ok {
			return token.At, true
		}
	}
	return len(text), !g.complete(c, head)
}

func TestGrammarOfTheTests(t *testing.T) {
	g := newGrammar(theGrammar)
	for _, c := range []struct {
		text string
		at   int
		bad  bool
	}{
		{"", 0, false}, {"global a;", 9, false}, {"proc a(){}", 10, false}, {"proc a(){l:}", 12, false}, {"proc a(){if(1){l:}}", 17, true}, {"proc main() { x 1; }", 16, true}, {"proc a(){x=f(ref x,1+2*3);l:}", 29, false}, {"proc a(){", 9, true}, {"proc a(){x=f(1)+1;}", 15, true}, {"proc a(){} a", 11, true},
	} {
		if at, bad := g.misfit(t, c.text, "program"); at != c.at || bad != c.bad {
			t.Fatalf("the grammar of the tests says %d, %t of %q; want %d, %t", at, bad, c.text, c.at, c.bad)
		}
	}
	holdGood(t, ordinary)
	if at, bad := g.misfit(t, ordinary, "program"); bad {
		t.Fatalf("the grammar of the tests refuses an ordinary program at %d", at)
	}
}

// walk goes through all texts that begin with a text that fits, as long as they fit, with up to
// more tokens, and holds at each what is answered of it, and of it with one token that does not fit.
type walk struct {
	t    *testing.T
	g    *grammar
	head string
	hold func(t *testing.T, text string, code api.Errno, at int)
	good func(t *testing.T, text string)
	met  int
}

func (w *walk) from(text string, more int) {
	w.t.Helper()
	tokens, _ := lex.All(text)
	c := w.g.begin(w.head)
	for _, token := range tokens[:len(tokens)-1] {
		var ok bool
		if c, ok = w.g.next(c, class(token)); !ok {
			w.t.Fatalf("%q does not fit at %d", text, token.At)
		}
	}
	w.on(text, c, more)
}

func (w *walk) on(text string, c chart, more int) {
	w.met++
	if w.g.complete(c, w.head) {
		w.good(w.t, text)
	} else {
		w.hold(w.t, text, api.ErrParse, len(text))
	}
	for _, token := range everyToken {
		kind := token
		if token == "a" {
			kind = "name"
		} else if token == "1" {
			kind = "number"
		}
		longer, ok := w.g.next(c, kind)
		if !ok {
			w.hold(w.t, text+" "+token, api.ErrParse, len(text)+1)
			continue
		}
		if more > 0 {
			w.on(text+" "+token, longer, more-1)
		}
	}
}

func TestEveryContinuation(t *testing.T) {
	w := &walk{t: t, g: newGrammar(theGrammar), head: "program", hold: holdFault, good: func(t *testing.T, text string) {
		t.Helper()
		if got, want := strings.Join(flat(holdGood(t, text)), " "), strings.Join(plain(text), " "); got != want {
			t.Errorf("P4.1: Parse(%q) has the tokens %q; want %q", text, got, want)
		}
	}}
	w.from("", 7)
	w.from("proc a (", 6)
	w.from("proc a ( ) {", 4)
	w.from("proc a ( ) { var a ;", 3)
	w.from("proc a ( ) { a :", 4)
	w.from("proc a ( ) { a = a", 3)
	w.from("proc a ( ) { a (", 3)
	w.from("proc a ( ) { a = a ( ref a", 4)
	w.from("proc a ( ) { if ( a", 3)
	w.from("proc a ( ) { if ( a ) {", 4)
	w.from("proc a ( ) { if ( a ) { a : a ( ) ; } ", 3)
	w.from("proc a ( ) { if ( a ) { } else { a :", 3)
	w.from("proc a ( ) { while ( 1 ) { } ", 2)
	w.from("proc a ( ) { while ( 1 ) { a :", 4)
	w.from("proc a ( ) { return", 3)
	w.from("proc a ( ) { break ; a : a : } proc", 4)
	if w.met < 8000 {
		t.Errorf("only %d texts were met", w.met)
	}
}

func TestEveryExpression(t *testing.T) {
	w := &walk{t: t, g: newGrammar(theGrammar), head: "expr", hold: holdExprFault, good: func(t *testing.T, text string) {
		t.Helper()
		x, fault := Expr(text)
		if fault != (api.Fault{}) {
			t.Fatalf("P4.1: Expr(%q) has the fault %v", text, fault)
		}
		tokens, _ := lex.All(text)
		if want := climb(tokens[:len(tokens)-1]); !sameExpr(x, want) {
			t.Errorf("P4.1: Expr(%q) = %v; want %v", text, x, want)
		}
	}}
	w.from("", 5)
	w.from("a + ! (", 3)
	w.from("( a && 1 - a * 1", 3)
	w.from("a || 1 < a == 1 %", 3)
	w.from("- ( - a )", 3)
	if w.met < 5000 {
		t.Errorf("only %d expressions were met", w.met)
	}
}

// climb answers the tree of tokens that are an expression, by its last operator outside of all
// parentheses that binds loosest.
func climb(tokens []api.Token) api.Expr {
	split, deep := -1, 0
	for i, token := range tokens {
		switch {
		case token.Text == "(":
			deep++
		case token.Text == ")":
			deep--
		case deep == 0 && token.Kind == api.TSign && endsOperand(tokens, i):
			if split < 0 || levelOf(binary(token.Text)) >= levelOf(binary(tokens[split].Text)) {
				split = i
			}
		}
	}
	first := tokens[0]
	switch {
	case split >= 0:
		return two(binary(tokens[split].Text), climb(tokens[:split]), climb(tokens[split+1:]))
	case first.Text == "-":
		return one(api.XNeg, climb(tokens[1:]))
	case first.Text == "!":
		return one(api.XNot, climb(tokens[1:]))
	case first.Text == "(":
		return climb(tokens[1 : len(tokens)-1])
	case first.Kind == api.TNumber:
		return num(first.N)
	}
	return name(first.Text)
}

// endsOperand reports whether what stands ahead of a sign ends an operand, so that the sign is a
// binary operator.
func endsOperand(tokens []api.Token, i int) bool {
	return i > 0 && (tokens[i-1].Kind != api.TSign || tokens[i-1].Text == ")")
}

func binary(sign string) int { return api.XMul + slices.Index(signOf[api.XMul:], sign) }

// plain answers the tokens of a text without those that a tree does not have: the parentheses of
// expressions and conditions, an empty else, and where a list of names is cut.
func plain(text string) []string {
	tokens, _ := lex.All(text)
	var out []string
	for i, token := range tokens[:len(tokens)-1] {
		call := token.Text == "(" && i > 0 && tokens[i-1].Kind == api.TName
		last := len(out) - 1
		switch {
		case token.Text == "(" && !call, token.Text == ")":
		case (token.Text == "global" || token.Text == "var") && last >= 0 && out[last] == ";":
			out[last] = ","
		case token.Text == "}" && last > 0 && out[last] == "{" && out[last-1] == "else":
			out = out[:last-1]
		default:
			out = append(out, token.Text)
		}
	}
	return out
}

// flat answers the tokens of a program, as plain does.
func flat(p api.Program) []string {
	var out []string
	if len(p.Globals) > 0 {
		out = append(append(append(out, "global"), between(p.Globals)...), ";")
	}
	for _, proc := range p.Procs {
		out = append(out, "proc", proc.Name, "(")
		for i, param := range proc.Params {
			out = append(out, []string{","}[:min(i, 1)]...)
			out = append(out, refName(param.Ref, param.Name)...)
		}
		out = append(out, "{")
		if len(proc.Vars) > 0 {
			out = append(append(append(out, "var"), between(proc.Vars)...), ";")
		}
		out = append(append(out, flatBlock(proc.Body)...), flatLabels(proc.End)...)
		out = append(out, "}")
	}
	return out
}

func between(names []string) []string { return strings.Fields(strings.Join(names, " , ")) }

func refName(ref bool, name string) []string {
	if ref {
		return []string{"ref", name}
	}
	return []string{name}
}

func flatLabels(labels []string) []string {
	var out []string
	for _, label := range labels {
		out = append(out, label, ":")
	}
	return out
}

func flatBlock(block []api.Stmt) []string {
	var out []string
	for _, s := range block {
		out = append(append(out, flatLabels(s.Labels)...), flatStmt(s)...)
	}
	return out
}

func flatStmt(s api.Stmt) []string {
	switch s.Kind {
	case api.SAssign:
		return slices.Concat([]string{s.Name, "="}, flatExpr(s.X), []string{";"})
	case api.SRead:
		return []string{"read", s.Name, ";"}
	case api.SPrint:
		return slices.Concat([]string{"print"}, flatExpr(s.X), []string{";"})
	case api.SCall:
		return flatCall(s)
	case api.SIf:
		out := slices.Concat([]string{"if"}, flatExpr(s.X), []string{"{"}, flatBlock(s.Then), []string{"}"})
		if len(s.Else) > 0 {
			out = slices.Concat(out, []string{"else", "{"}, flatBlock(s.Else), []string{"}"})
		}
		return out
	case api.SWhile:
		return slices.Concat([]string{"while"}, flatExpr(s.X), []string{"{"}, flatBlock(s.Then), []string{"}"})
	case api.SBreak:
		return []string{"break", ";"}
	case api.SContinue:
		return []string{"continue", ";"}
	case api.SReturn:
		if s.Has {
			return slices.Concat([]string{"return"}, flatExpr(s.X), []string{";"})
		}
		return []string{"return", ";"}
	case api.SGoto:
		return []string{"goto", s.Name, ";"}
	}
	return []string{"?"}
}

func flatCall(s api.Stmt) []string {
	var out []string
	if s.Name != "" {
		out = append(out, s.Name, "=")
	}
	out = append(out, s.Proc, "(")
	for i, arg := range s.Args {
		out = append(out, []string{","}[:min(i, 1)]...)
		if arg.Ref {
			out = append(out, "ref", arg.Name)
		} else {
			out = append(out, flatExpr(arg.X)...)
		}
	}
	return append(out, ";")
}

func flatExpr(x api.Expr) []string {
	switch {
	case x.Op == api.XNumber:
		return []string{digits(x.N)}
	case x.Op == api.XName:
		return []string{x.Name}
	case len(x.Kids) == 1:
		return append([]string{signOf[x.Op]}, flatExpr(x.Kids[0])...)
	}
	return slices.Concat(flatExpr(x.Kids[0]), []string{signOf[x.Op]}, flatExpr(x.Kids[1]))
}
