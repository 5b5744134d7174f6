package touch

import (
	"math/rand"
	"strings"
	"testing"

	"whittler/api"
	"whittler/print"
	"whittler/scope"
	"whittler/tree"
)

// maker makes programs whose names are all right, by dice that fall alike each time.
type maker struct {
	dice *rand.Rand
	left int // how many statements may still be made
	rare int // a statement of so many is a call, and a variable of so many is a global
	p    api.Program
	own  []string // the names of the procedure that is made
}

func (m *maker) pick(n int) int { return m.dice.Intn(n) }

func (m *maker) one(names []string) string { return names[m.pick(len(names))] }

func (m *maker) name() string {
	if m.pick(m.rare) == 0 {
		return m.one(m.p.Globals)
	}
	return m.one(m.own)
}

// label answers a name of anything.
func (m *maker) label() string {
	switch m.pick(3) {
	case 0:
		return m.one(m.p.Globals)
	case 1:
		return m.p.Procs[m.pick(len(m.p.Procs))].Name
	}
	return m.one(m.own)
}

func (m *maker) expr(depth int) api.Expr {
	switch kind := m.pick(5); {
	case depth == 1 && kind%2 == 0 || kind == 0:
		return num(int64(m.pick(100)))
	case depth == 1 || kind == 1:
		return name(m.name())
	}
	op := api.XNeg + m.pick(api.XOr-api.XNeg+1)
	if op < api.XMul {
		return one(op, m.expr(depth-1))
	}
	return two(op, m.expr(depth-1), m.expr(depth-1))
}

func (m *maker) block(depth, n int) []api.Stmt {
	var out []api.Stmt
	for range n {
		if m.left > 0 && depth <= api.MaxNest {
			m.left--
			out = append(out, m.stmt(depth))
		}
	}
	return out
}

func (m *maker) stmt(depth int) api.Stmt {
	s := api.Stmt{Kind: 1 + m.pick(api.SGoto)}
	if m.pick(3) == 0 || s.Kind == api.SCall {
		s.Kind = api.SIf
	}
	if m.pick(m.rare) == 0 && len(m.p.Procs) > 1 {
		s.Kind = api.SCall
	}
	for m.pick(4) == 0 {
		s.Labels = append(s.Labels, m.label())
	}
	switch s.Kind {
	case api.SAssign:
		s.Name, s.X = m.name(), m.expr(3)
	case api.SRead:
		s.Name = m.name()
	case api.SPrint:
		s.X = m.expr(4)
	case api.SCall:
		m.call(&s)
	case api.SIf:
		s.X, s.Then, s.Else = m.expr(2), m.block(depth+1, m.pick(4)), m.block(depth+1, m.pick(4))
	case api.SWhile:
		s.X, s.Then = m.expr(2), m.block(depth+1, m.pick(4))
	case api.SReturn:
		if s.Has = m.pick(2) == 0; s.Has {
			s.X = m.expr(2)
		}
	case api.SGoto:
		s.Name = m.label()
	}
	return s
}

// call makes s a call of a procedure other than the first one, which is main, with any arguments.
func (m *maker) call(s *api.Stmt) {
	s.Proc = m.p.Procs[1+m.pick(len(m.p.Procs)-1)].Name
	if m.pick(2) == 0 {
		s.Name = m.name()
	}
	for m.pick(3) > 0 {
		if m.pick(2) == 0 {
			s.Args = append(s.Args, api.Arg{Ref: true, Name: m.name()})
		} else {
			s.Args = append(s.Args, api.Arg{X: m.expr(1 + m.pick(3))})
		}
	}
}

func (m *maker) program(n, rare int) api.Program {
	names := strings.Fields("a b c ab ba a0 a1 b0 cc c9 x y z main2 f g")
	m.dice.Shuffle(len(names), func(i, j int) { names[i], names[j] = names[j], names[i] })
	m.left, m.rare = n, rare
	m.p = api.Program{Globals: names[:3+m.pick(6)], Procs: []api.Proc{{Name: "main", Vars: []string{"v"}}}}
	for i := range m.pick(8) {
		proc := api.Proc{Name: names[(2*i+5)%16], Vars: []string{"v", "w"}[:m.pick(3)], Params: []api.Param{{Name: "p"}, {Name: "q", Ref: true}}[m.pick(2):]}
		m.p.Procs = append(m.p.Procs, proc)
	}
	for i, proc := range m.p.Procs {
		m.own = append([]string{}, proc.Vars...)
		for _, param := range proc.Params {
			m.own = append(m.own, param.Name)
		}
		m.p.Procs[i].Body, m.p.Procs[i].End = m.block(1, 1+m.pick(5)), []string{m.label(), m.label()}[m.pick(3)/2:]
	}
	m.dice.Shuffle(len(m.p.Procs), func(i, j int) { m.p.Procs[i], m.p.Procs[j] = m.p.Procs[j], m.p.Procs[i] })
	return tree.Number(m.p)
}

func TestRandomPrograms(t *testing.T) {
	m := &maker{dice: rand.New(rand.NewSource(11))}
	far, alone, some, none := 0, 0, 0, 0
	for i := range 1500 {
		p := m.program(30, 2+i%4)
		if got := scope.Check(p); got != (api.Fault{}) {
			t.Fatalf("the names of\n%s have the fault %v", print.Text(p), got)
		}
		holdAll(t, p)
		if t.Failed() {
			t.Fatalf("the program is\n%s", print.Text(p))
		}
		for _, f := range p.Procs {
			if n := len(All(p, f.Name)); n > 2+len(Calls(p, f.Name)) {
				far++
			} else if n == 1 {
				alone++
			}
			if n := len(Globals(p, f.Name)); n == 0 {
				none++
			} else if n < len(p.Globals) {
				some++
			}
		}
	}
	if far < 200 || alone < 1000 || some < 1000 || none < 1000 {
		t.Errorf("%d procedures reach others indirectly, %d none; %d touch some globals, %d none", far, alone, some, none)
	}
}
