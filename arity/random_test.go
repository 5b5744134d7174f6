package arity

import (
	"math/rand"
	"slices"
	"testing"

	"whittler/api"
	"whittler/print"
	"whittler/scope"
	"whittler/tree"
)

// maker makes programs whose names are all right, by dice that fall alike each time.
type maker struct {
	dice *rand.Rand
	left int // how many statements may still be made
	wild int // a call of so many is made of any arguments
	p    api.Program
	vars []string // those of the procedure that is made
}

func (m *maker) pick(n int) int { return m.dice.Intn(n) }

func (m *maker) name() string { return m.vars[m.pick(len(m.vars))] }

func (m *maker) expr(depth int) api.Expr {
	switch kind := m.pick(5); {
	case depth == 1 && kind%2 == 0 || kind == 0:
		return num(int64(m.pick(100)))
	case depth == 1 || kind == 1:
		return name(m.name())
	}
	op := api.XNeg + m.pick(api.XOr-api.XNeg+1)
	if op < api.XMul {
		return one(op, m.expr(depth-1))
	}
	return two(op, m.expr(depth-1), m.expr(depth-1))
}

func (m *maker) block(depth int) []api.Stmt {
	var out []api.Stmt
	for range m.pick(5) {
		if m.left > 0 && depth <= api.MaxNest {
			m.left--
			out = append(out, m.stmt(depth))
		}
	}
	return out
}

func (m *maker) stmt(depth int) api.Stmt {
	s := api.Stmt{Kind: 1 + m.pick(api.SGoto)}
	if m.pick(3) == 0 || len(m.p.Procs) == 1 && s.Kind == api.SCall {
		s.Kind = api.SIf
	}
	switch s.Kind {
	case api.SAssign:
		s.Name, s.X = m.name(), m.expr(4)
	case api.SRead, api.SGoto:
		s.Name = m.name()
	case api.SPrint:
		s.X = m.expr(5)
	case api.SCall:
		s = m.call()
	case api.SIf:
		s.X, s.Then, s.Else = m.expr(3), m.block(depth+1), m.block(depth+1)
	case api.SWhile:
		s.X, s.Then = m.expr(3), m.block(depth+1)
	case api.SReturn:
		if s.Has = m.pick(2) == 0; s.Has {
			s.X = m.expr(3)
		}
	}
	return s
}

// call answers a call of a procedure other than the first one, which is main.
func (m *maker) call() api.Stmt {
	proc := m.p.Procs[1+m.pick(len(m.p.Procs)-1)]
	s := api.Stmt{Kind: api.SCall, Proc: proc.Name}
	if m.pick(2) == 0 {
		s.Name = m.name()
	}
	for _, param := range proc.Params {
		s.Args = append(s.Args, m.arg(param.Ref))
	}
	if m.pick(m.wild) > 0 {
		return s
	}
	switch n := len(s.Args); {
	case m.pick(3) == 0:
		s.Args = append(s.Args, m.arg(m.pick(2) == 0))
	case n == 0:
	case m.pick(2) == 0:
		s.Args = s.Args[1:]
	default:
		s.Args[m.pick(n)] = m.arg(m.pick(2) == 0)
	}
	return s
}

func (m *maker) arg(byRef bool) api.Arg {
	if byRef {
		return ref(m.name())
	}
	return val(m.expr(1 + m.pick(4)))
}

func (m *maker) program() api.Program {
	m.p = api.Program{Globals: []string{"g", "h"}, Procs: []api.Proc{{Name: "main", Vars: []string{"v"}}}}
	for i := range m.pick(5) {
		proc := api.Proc{Name: "f" + string(rune('a'+i)), Vars: []string{"v", "w"}[:m.pick(3)]}
		for j := range m.pick(5) {
			proc.Params = append(proc.Params, api.Param{Name: "p" + string(rune('a'+j)), Ref: m.pick(2) == 0})
		}
		m.p.Procs = append(m.p.Procs, proc)
	}
	p := tree.Number(m.p)
	for i, proc := range p.Procs {
		m.vars = scope.Vars(p, proc.Name)
		m.p.Procs[i].Body = m.block(1)
	}
	m.dice.Shuffle(len(m.p.Procs), func(i, j int) { m.p.Procs[i], m.p.Procs[j] = m.p.Procs[j], m.p.Procs[i] })
	return tree.Number(m.p)
}

func TestRandomPrograms(t *testing.T) {
	m := &maker{dice: rand.New(rand.NewSource(7))}
	right, misfits, inside := 0, 0, 0
	for i := range 6000 {
		m.left, m.wild = 40, 1<<(i%6)
		p := m.program()
		if fault := scope.Check(p); fault != (api.Fault{}) {
			t.Fatalf("the names of\n%s have the fault %v", print.Text(p), fault)
		}
		want := wantedFault(t, p)
		if got := Check(p); got != want {
			t.Fatalf("P7.1: Check of\n%s = %v; want %v", print.Text(p), got, want)
		}
		if want == (api.Fault{}) {
			right++
			continue
		}
		misfits++
		where, _, _ := tree.Find(p, want.At)
		at := slices.IndexFunc(p.Procs, func(proc api.Proc) bool { return proc.Name == where })
		if !slices.ContainsFunc(p.Procs[at].Body, func(s api.Stmt) bool { return s.Id == want.At }) {
			inside++
		}
	}
	if right < 1000 || misfits < 1000 || inside < 500 {
		t.Errorf("%d programs are right, %d have a call that does not fit, %d inside a statement", right, misfits, inside)
	}
}

// Every statement of random programs is asked, in its own program and in others.
func TestRandomStatements(t *testing.T) {
	m := &maker{dice: rand.New(rand.NewSource(8))}
	fit, not := 0, 0
	p := m.programOf(20, 2)
	for range 400 {
		q := m.programOf(20, 2)
		for id := 1; id <= tree.Count(q); id++ {
			_, s, _ := tree.Find(q, id)
			for _, where := range []api.Program{p, q} {
				want := wantedFit(t, where, s)
				holdFits(t, where, s, want)
				if want {
					fit++
				} else if s.Kind == api.SCall {
					not++
				}
			}
		}
		p = q
	}
	if fit < 200 || not < 200 {
		t.Errorf("%d calls fit, %d do not", fit, not)
	}
}

// programOf answers a program of at most n statements.
func (m *maker) programOf(n, wild int) api.Program {
	m.left, m.wild = n, wild
	return m.program()
}
