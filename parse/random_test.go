package parse

import (
	"math/rand"
	"strings"
	"testing"

	"whittler/api"
	"whittler/lex"
	"whittler/tree"
)

// maker makes programs and their texts by dice that fall alike each time.
type maker struct {
	dice *rand.Rand
	left int // how many statements may still be made
}

func (m *maker) pick(n int) int { return m.dice.Intn(n) }

func (m *maker) name() string {
	return []string{"a", "b", "x1", "abcdefgh", "iff", "main", "z9"}[m.pick(7)]
}

func (m *maker) names(most int) []string {
	var out []string
	for range m.pick(most + 1) {
		out = append(out, m.name())
	}
	return out
}

func (m *maker) expr(depth int) api.Expr {
	switch m.pick(6) {
	case 0:
		return num(m.dice.Int63() >> m.pick(63))
	case 1:
		return name(m.name())
	}
	if depth == 1 {
		return name(m.name())
	}
	op := api.XNeg + m.pick(api.XOr-api.XNeg+1)
	if op < api.XMul {
		return one(op, m.expr(depth-1))
	}
	return two(op, m.expr(depth-1), m.expr(depth-1))
}

func (m *maker) block(depth int) []api.Stmt {
	var out []api.Stmt
	for range m.pick(4) {
		if m.left > 0 && depth <= api.MaxNest {
			m.left--
			out = append(out, m.stmt(depth))
		}
	}
	return out
}

func (m *maker) stmt(depth int) api.Stmt {
	s := api.Stmt{Kind: 1 + m.pick(api.SGoto), Labels: m.names(2)[:0]}
	if m.pick(3) == 0 {
		s.Labels = m.names(3)
	}
	switch s.Kind {
	case api.SAssign:
		s.Name, s.X = m.name(), m.expr(4)
	case api.SRead, api.SGoto:
		s.Name = m.name()
	case api.SPrint:
		s.X = m.expr(5)
	case api.SCall:
		s.Proc, s.Args = m.name(), m.args()
		if m.pick(2) == 0 {
			s.Name = m.name()
		}
	case api.SIf:
		s.X, s.Then, s.Else = m.expr(3), m.block(depth+1), m.block(depth+1)
	case api.SWhile:
		s.X, s.Then = m.expr(3), m.block(depth+1)
	case api.SReturn:
		if s.Has = m.pick(2) == 0; s.Has {
			s.X = m.expr(3)
		}
	}
	return s
}

func (m *maker) args() []api.Arg {
	var out []api.Arg
	for range m.pick(4) {
		if m.pick(2) == 0 {
			out = append(out, api.Arg{Ref: true, Name: m.name()})
		} else {
			out = append(out, api.Arg{X: m.expr(3)})
		}
	}
	return out
}

func (m *maker) program() api.Program {
	p := api.Program{Globals: m.names(4)}
	for range m.pick(4) {
		proc := api.Proc{Name: m.name(), Vars: m.names(4), Body: m.block(1), End: m.names(2)}
		for _, s := range m.names(4) {
			proc.Params = append(proc.Params, api.Param{Name: s, Ref: m.pick(2) == 0})
		}
		p.Procs = append(p.Procs, proc)
	}
	return tree.Number(p)
}

// level tells how close an expression binds: the less, the closer.
func level(x api.Expr) int {
	if x.Op < api.XMul {
		return -1
	}
	return levelOf(x.Op)
}

// write answers the text of an expression, in parentheses where they must be and sometimes elsewhere.
func (m *maker) write(x api.Expr, most int) string {
	text := ""
	switch {
	case x.Op == api.XNumber:
		text = digits(x.N)
	case x.Op == api.XName:
		text = x.Name
	case x.Op < api.XMul:
		text = signOf[x.Op] + " " + m.write(x.Kids[0], -1)
	default:
		text = m.write(x.Kids[0], level(x)) + " " + signOf[x.Op] + " " + m.write(x.Kids[1], level(x)-1)
	}
	if level(x) > most || m.pick(8) == 0 {
		return "( " + text + " )"
	}
	return text
}

func (m *maker) writeLabels(labels []string) string {
	return strings.Join(flatLabels(labels), " ") + " "
}

func (m *maker) writeBlock(block []api.Stmt) string {
	var out strings.Builder
	for _, s := range block {
		out.WriteString(m.writeLabels(s.Labels) + m.writeStmt(s) + " ")
	}
	return out.String()
}

func (m *maker) writeStmt(s api.Stmt) string {
	x := ""
	if s.X.Op != 0 {
		x = m.write(s.X, 9)
	}
	switch s.Kind {
	case api.SAssign:
		return s.Name + " = " + x + " ;"
	case api.SPrint:
		return "print " + x + " ;"
	case api.SReturn:
		return "return " + x + " ;"
	case api.SCall:
		return m.writeCall(s)
	case api.SWhile:
		return "while ( " + x + " ) { " + m.writeBlock(s.Then) + "}"
	case api.SIf:
		text := "if ( " + x + " ) { " + m.writeBlock(s.Then) + "}"
		if len(s.Else) > 0 || m.pick(2) == 0 {
			text += " else { " + m.writeBlock(s.Else) + "}"
		}
		return text
	}
	return strings.Join(flatStmt(s), " ")
}

func (m *maker) writeCall(s api.Stmt) string {
	text := s.Proc + " ( "
	if s.Name != "" {
		text = s.Name + " = " + text
	}
	for i, arg := range s.Args {
		if i > 0 {
			text += " , "
		}
		if arg.Ref {
			text += "ref " + arg.Name
		} else {
			text += m.write(arg.X, 9)
		}
	}
	return text + " ) ;"
}

// writeNames answers declarations of names, cut anywhere.
func (m *maker) writeNames(word string, names []string) string {
	text := ""
	for i, s := range names {
		switch {
		case i == 0:
			text += word + " " + s
		case m.pick(2) == 0:
			text += " ; " + word + " " + s
		default:
			text += " , " + s
		}
	}
	if text == "" {
		return ""
	}
	return text + " ; "
}

// text answers a text of a program, with a blank between each two tokens.
func (m *maker) text(p api.Program) string {
	text := m.writeNames("global", p.Globals)
	for _, proc := range p.Procs {
		var params []string
		for _, param := range proc.Params {
			params = append(params, strings.Join(refName(param.Ref, param.Name), " "))
		}
		text += "proc " + proc.Name + " ( " + strings.Join(params, " , ") + " ) { " + m.writeNames("var", proc.Vars)
		text += m.writeBlock(proc.Body) + m.writeLabels(proc.End) + "} "
	}
	return text
}

// spread lays other whitespace and comments where blanks are.
func (m *maker) spread(text string) string {
	var out strings.Builder
	for part := range strings.FieldsSeq(text) {
		out.WriteString(part)
		out.WriteString([]string{" ", "\n", "\t\r\n", "  ", "#\n", "# if ( ?\n"}[m.pick(6)])
	}
	return out.String()
}

// spoil takes a token out, lays one in, or lays one in place of another.
func (m *maker) spoil(text string) string {
	parts := strings.Fields(text)
	if len(parts) == 0 {
		return everyToken[m.pick(len(everyToken))]
	}
	at, token := m.pick(len(parts)), everyToken[m.pick(len(everyToken))]
	switch m.pick(4) {
	case 0:
		parts = append(parts[:at], parts[at+1:]...)
	case 1:
		parts = append(parts[:at], append([]string{token}, parts[at:]...)...)
	case 2:
		parts = parts[:at]
	default:
		parts[at] = token
	}
	return strings.Join(parts, " ")
}

func TestRandomPrograms(t *testing.T) {
	m := &maker{dice: rand.New(rand.NewSource(4))}
	g := newGrammar(theGrammar)
	good, bad := 0, 0
	for range 1500 {
		m.left = 25
		p := m.program()
		text := m.text(p)
		if tokens, fault := lex.All(text); fault.Code != api.OK || len(tokens) > 300 {
			continue
		}
		holdProgram(t, text, p)
		holdProgram(t, m.spread(text), p)
		for range 2 {
			wrong := m.spoil(text)
			if at, misfit := g.misfit(t, wrong, "program"); misfit {
				bad++
				holdFault(t, wrong, api.ErrParse, at)
			} else {
				good++
				if got, want := strings.Join(flat(holdGood(t, wrong)), " "), strings.Join(plain(wrong), " "); got != want {
					t.Errorf("P4.1: Parse(%q) has the tokens %q; want %q", wrong, got, want)
				}
			}
		}
	}
	if good < 100 || bad < 1000 {
		t.Errorf("only %d spoilt texts fit, and %d do not", good, bad)
	}
}

func TestRandomExpressions(t *testing.T) {
	m := &maker{dice: rand.New(rand.NewSource(5))}
	for range 5000 {
		x := m.expr(8)
		text := m.write(x, 9)
		got, fault := Expr(m.spread(text))
		if fault.Code == api.ErrLimit && len(strings.Fields(text)) > api.MaxTokens {
			continue
		}
		if fault != (api.Fault{}) || !sameExpr(got, x) {
			t.Fatalf("P4.1: Expr(%q) = %v, %v; want %v", text, got, fault, x)
		}
	}
}

func TestAnyText(t *testing.T) {
	dice := rand.New(rand.NewSource(6))
	for a := range 256 {
		for b := range 256 {
			text := string([]byte{byte(a), byte(b)})
			p, fault := Parse(text)
			if fault.Code == api.OK && !tree.May(p) {
				t.Errorf("P4.1: tree.May refuses what Parse(%q) answers", text)
			}
			x, fault := Expr(text)
			if (fault.Code == api.OK) != tree.MayExpr(x) {
				t.Errorf("P4.1: Expr(%q) = %v, %v", text, x, fault)
			}
		}
	}
	for range 3000 {
		text := make([]byte, dice.Intn(40))
		for i := range text {
			text[i] = byte(dice.Intn(256))
		}
		Parse(string(text))
		Expr(string(text))
	}
	// As many tokens in one another as may be.
	for _, token := range append(everyToken, "while ( 1 ) {", "a :", "a =", "a (", "( ( -", "1 +", "1 - (", "if ( 1 ) { } else {") {
		n := len(strings.Fields(token))
		for _, head := range []string{"", "proc a ( ) { ", "proc a ( ) { print ", "proc a ( ) { a ( "} {
			text := head + strings.Repeat(token+" ", (api.MaxTokens-8)/n)
			if _, fault := Parse(text); fault.Code != api.ErrParse && fault.Code != api.ErrLimit {
				t.Errorf("P4.1: Parse(%q) has the fault %v", short(text), fault)
			}
			Expr(text)
		}
	}
}

func TestResultsAreFresh(t *testing.T) {
	text := strings.Clone(ordinary)
	first, _ := Parse(text)
	second, _ := Parse(text)
	holdApart(t, append(append(spans(first), spans(second)...), textSpan("the text", text)))
	sum := strings.Clone("a*(b+-c)<d||e")
	x, _ := Expr(sum)
	y, _ := Expr(sum)
	holdApart(t, append(append(spans(x), spans(y)...), textSpan("the text", sum)))
	first.Procs[0].Body[0].Name = "q"
	first.Procs[0].Body[1].Then[0].X.Name = "q"
	first.Globals[0] = "q"
	holdProgram(t, text, ordinaryTree())
	if !tree.Eq(second, ordinaryTree()) {
		t.Errorf("P0.3: a changed result changes another one")
	}
}
