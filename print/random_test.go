package print

import (
	"math/rand"
	"slices"
	"strconv"
	"strings"
	"testing"

	"whittler/api"
	"whittler/parse"
	"whittler/tree"
)

// reads reports whether a text is read as x.
func reads(text string, x api.Expr) bool {
	got, fault := parse.Expr(text)
	return fault == (api.Fault{}) && sameExpr(got, x)
}

// wanted answers the text of x as the chapter's main clause says it: an operand is enclosed exactly
// if the whole would be read otherwise without that. No precedence is known here.
func wanted(x api.Expr) string {
	switch {
	case x.Op == api.XNumber:
		return strconv.FormatInt(x.N, 10)
	case x.Op == api.XName:
		return x.Name
	case len(x.Kids) == 1:
		kid, sign := wanted(x.Kids[0]), signOf[x.Op]
		if !reads(sign+kid, x) {
			kid = "(" + kid + ")"
		}
		return sign + kid
	}
	left, right, sign := wanted(x.Kids[0]), wanted(x.Kids[1]), " "+signOf[x.Op]+" "
	shutLeft, shutRight := "("+left+")", "("+right+")"
	if reads(left+sign+shutRight, x) {
		shutLeft = left
	}
	if reads(shutLeft+sign+right, x) {
		shutRight = right
	}
	return shutLeft + sign + shutRight
}

func holdWanted(t *testing.T, x api.Expr) {
	t.Helper()
	got := Expr(x)
	if want := wanted(x); got != want {
		t.Fatalf("P5.1: Expr(%v) = %q; want %q", x, got, want)
	}
	if !reads(got, x) {
		t.Fatalf("P5.1: %q is not read again as %v", got, x)
	}
}

// all answers all expressions of a depth at most, of the given leaves and operators.
func all(depth int, leaves []api.Expr, ones, twos []int) []api.Expr {
	out := slices.Clone(leaves)
	if depth == 1 {
		return out
	}
	kids := all(depth-1, leaves, ones, twos)
	for _, x := range kids {
		for _, op := range ones {
			out = append(out, one(op, x))
		}
		for _, y := range kids {
			for _, op := range twos {
				out = append(out, two(op, x, y))
			}
		}
	}
	return out
}

func TestAllSmallExpressions(t *testing.T) {
	flat := all(3, []api.Expr{name("a")}, unary, binary)
	deep := all(4, []api.Expr{num(3)}, []int{api.XNeg}, []int{api.XMul, api.XSub, api.XOr})
	for _, x := range slices.Concat(flat, deep) {
		holdWanted(t, x)
	}
	// 1 + 2*n + 13*n*n of the 16 of depth 2, and 1 + n + 3*n*n of the 81 of depth 3.
	if len(flat) != 1+2*16+13*256 || len(deep) != 1+81+3*81*81 {
		t.Errorf("%d and %d expressions", len(flat), len(deep))
	}
}

// maker makes programs by dice that fall alike each time.
type maker struct {
	dice *rand.Rand
	left int // how many statements may still be made
}

func (m *maker) pick(n int) int { return m.dice.Intn(n) }

func (m *maker) name() string {
	return []string{"a", "b", "x1", "abcdefgh", "iff", "main", "z9"}[m.pick(7)]
}

func (m *maker) names(most int) []string {
	var out []string
	for range m.pick(most + 1) {
		out = append(out, m.name())
	}
	return out
}

func (m *maker) expr(depth int) api.Expr {
	if kind := m.pick(6); depth == 1 || kind < 2 {
		if kind%2 == 0 {
			return num(m.dice.Int63() >> m.pick(63))
		}
		return name(m.name())
	}
	op := api.XNeg + m.pick(api.XOr-api.XNeg+1)
	if op < api.XMul {
		return one(op, m.expr(depth-1))
	}
	return two(op, m.expr(depth-1), m.expr(depth-1))
}

func (m *maker) block(depth int) []api.Stmt {
	var out []api.Stmt
	for range m.pick(4) {
		if m.left > 0 && depth <= api.MaxNest {
			m.left--
			out = append(out, m.stmt(depth))
		}
	}
	return out
}

func (m *maker) stmt(depth int) api.Stmt {
	s := api.Stmt{Kind: 1 + m.pick(api.SGoto)}
	if m.pick(3) == 0 {
		s.Labels = m.names(3)
	}
	switch s.Kind {
	case api.SAssign:
		s.Name, s.X = m.name(), m.expr(4)
	case api.SRead, api.SGoto:
		s.Name = m.name()
	case api.SPrint:
		s.X = m.expr(5)
	case api.SCall:
		s.Proc, s.Args = m.name(), m.args()
		if m.pick(2) == 0 {
			s.Name = m.name()
		}
	case api.SIf:
		s.X, s.Then, s.Else = m.expr(3), m.block(depth+1), m.block(depth+1)
	case api.SWhile:
		s.X, s.Then = m.expr(3), m.block(depth+1)
	case api.SReturn:
		if s.Has = m.pick(2) == 0; s.Has {
			s.X = m.expr(3)
		}
	}
	return s
}

func (m *maker) args() []api.Arg {
	var out []api.Arg
	for range m.pick(4) {
		if m.pick(2) == 0 {
			out = append(out, api.Arg{Ref: true, Name: m.name()})
		} else {
			out = append(out, api.Arg{X: m.expr(3)})
		}
	}
	return out
}

func (m *maker) program() api.Program {
	p := api.Program{Globals: m.names(4)}
	for range m.pick(4) {
		proc := api.Proc{Name: m.name(), Vars: m.names(4), Body: m.block(1), End: m.names(2)}
		for _, s := range m.names(4) {
			proc.Params = append(proc.Params, api.Param{Name: s, Ref: m.pick(2) == 0})
		}
		p.Procs = append(p.Procs, proc)
	}
	return tree.Number(p)
}

func TestRandomExpressions(t *testing.T) {
	m := &maker{dice: rand.New(rand.NewSource(7))}
	enclosed := 0
	for range 6000 {
		x := m.expr(7)
		text := Expr(x)
		if n, ok := tokens(text); !ok || n > 150 {
			continue
		}
		holdWanted(t, x)
		enclosed += strings.Count(text, "(")
	}
	if enclosed < 5000 {
		t.Errorf("only %d operands in parentheses", enclosed)
	}
}

// wantedLines answers the lines of a program; those of a block are made without regard to where it
// stands, and moved to the right by what is around it.
func wantedLines(p api.Program) []string {
	var out []string
	if len(p.Globals) > 0 {
		out = append(out, "global "+strings.Join(p.Globals, ", ")+";")
	}
	for _, proc := range p.Procs {
		var params, inner []string
		for _, param := range proc.Params {
			params = append(params, map[bool]string{true: "ref "}[param.Ref]+param.Name)
		}
		if len(proc.Vars) > 0 {
			inner = append(inner, "var "+strings.Join(proc.Vars, ", ")+";")
		}
		inner = append(inner, wantedBlock(proc.Body)...)
		out = append(out, "proc "+proc.Name+"("+strings.Join(params, ", ")+") {")
		out = append(out, moved(inner)...)
		out = append(out, wantedLabels(proc.End)+"}")
	}
	return out
}

func moved(lines []string) []string {
	if len(lines) == 0 {
		return nil
	}
	return strings.Split(" "+strings.Join(lines, "\n "), "\n")
}

func wantedLabels(labels []string) string {
	return strings.Join(append(labels[:len(labels):len(labels)], ""), ": ")
}

func wantedBlock(block []api.Stmt) []string {
	var out []string
	for _, s := range block {
		all := wantedStmt(s)
		all[0] = wantedLabels(s.Labels) + all[0]
		out = append(out, all...)
	}
	return out
}

func wantedStmt(s api.Stmt) []string {
	x := ""
	if s.X.Op != 0 {
		x = wanted(s.X)
	}
	switch s.Kind {
	case api.SIf:
		out := append([]string{"if (" + x + ") {"}, moved(wantedBlock(s.Then))...)
		if len(s.Else) > 0 {
			out = append(append(out, "} else {"), moved(wantedBlock(s.Else))...)
		}
		return append(out, "}")
	case api.SWhile:
		return append(append([]string{"while (" + x + ") {"}, moved(wantedBlock(s.Then))...), "}")
	case api.SCall:
		var args []string
		for _, arg := range s.Args {
			if arg.Ref {
				args = append(args, "ref "+arg.Name)
			} else {
				args = append(args, wanted(arg.X))
			}
		}
		x = s.Proc + "(" + strings.Join(args, ", ") + ")"
		return []string{strings.TrimPrefix(s.Name+" = ", " = ") + x + ";"}
	}
	form := map[int]string{api.SAssign: "N = X", api.SRead: "read N", api.SPrint: "print X", api.SBreak: "break", api.SContinue: "continue", api.SReturn: "return X", api.SGoto: "goto N"}[s.Kind]
	return []string{strings.TrimSuffix(strings.NewReplacer("N", s.Name, "X", x).Replace(form), " ") + ";"}
}

func TestRandomPrograms(t *testing.T) {
	m := &maker{dice: rand.New(rand.NewSource(8))}
	met := 0
	for range 2500 {
		m.left = 30
		p := m.program()
		want := ""
		for _, line := range wantedLines(p) {
			want += line + "\n"
		}
		if n, ok := tokens(want); !ok || n > api.MaxTokens {
			continue
		}
		met++
		holdText(t, p, want)
		// What is written of the same program in another form is the same text.
		if q, _ := parse.Parse(strings.Join(strings.Fields(want), "\n")); Text(q) != want {
			t.Errorf("P5.2: Text of what %q is read as = %q", want, Text(q))
		}
	}
	if met < 2000 {
		t.Errorf("only %d programs", met)
	}
}
