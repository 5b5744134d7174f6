package check

import (
	"math/rand"
	"testing"

	"whittler/alias"
	"whittler/api"
	"whittler/arity"
	"whittler/jump"
	"whittler/print"
	"whittler/scope"
	"whittler/tree"
)

// lowest asks all checks for what they tell and answers the fault with the lowest number, which is that
// of the first check; that of the form does not count where the form is right.
func lowest(p api.Program) api.Fault {
	if !tree.May(p) {
		return api.Fault{Code: api.ErrForm}
	}
	out := api.Fault{}
	for _, got := range []api.Fault{alias.Check(p), jump.Check(p), arity.Check(p), scope.Check(p)} {
		if got.Code > api.ErrForm && (out.Code == api.OK || got.Code < out.Code) {
			out = got
		}
	}
	return out
}

// maker makes programs, some of them right, by dice that fall alike each time.
type maker struct {
	dice *rand.Rand
	left int // how many statements may still be made
	wild int // one of so many things is any one
	p    api.Program
	vars []string
	ends []string // the labels of the procedure that is made
	loop int      // how many loops are around
}

func (m *maker) pick(n int) int { return m.dice.Intn(n) }

func (m *maker) isWild() bool { return m.pick(m.wild) == 0 }

func (m *maker) name() string {
	if m.isWild() {
		return []string{"g", "h", "v", "w", "pa", "none"}[m.pick(6)]
	}
	return m.vars[m.pick(len(m.vars))]
}

func (m *maker) expr(depth int) api.Expr {
	switch kind := m.pick(5); {
	case depth == 1 && kind%2 == 0 || kind == 0:
		return num(int64(m.pick(100)))
	case depth == 1 || kind == 1:
		return name(m.name())
	}
	op := api.XNeg + m.pick(api.XOr-api.XNeg+1)
	if op < api.XMul {
		return one(op, m.expr(depth-1))
	}
	return two(op, m.expr(depth-1), m.expr(depth-1))
}

func (m *maker) block(depth int) []api.Stmt {
	var out []api.Stmt
	for range m.pick(5) {
		if m.left > 0 && depth <= api.MaxNest {
			m.left--
			out = append(out, m.stmt(depth))
		}
	}
	return out
}

func (m *maker) stmt(depth int) api.Stmt {
	s := api.Stmt{Kind: 1 + m.pick(api.SGoto)}
	if m.pick(4) == 0 {
		s.Kind = api.SCall
	} else if m.pick(3) == 0 {
		s.Kind = api.SWhile
	}
	if (s.Kind == api.SBreak || s.Kind == api.SContinue) && m.loop == 0 && !m.isWild() || s.Kind == api.SCall && len(m.p.Procs) == 1 {
		s.Kind = api.SIf
	}
	for m.pick(6) == 0 {
		s.Labels = append(s.Labels, m.label())
	}
	switch s.Kind {
	case api.SAssign:
		s.Name, s.X = m.name(), m.expr(3)
	case api.SRead:
		s.Name = m.name()
	case api.SGoto:
		if s.Name = "e"; m.isWild() {
			s.Name = "none"
		}
	case api.SPrint:
		s.X = m.expr(3)
	case api.SCall:
		m.call(&s)
	case api.SIf:
		s.X, s.Then, s.Else = m.expr(2), m.block(depth+1), m.block(depth+1)
	case api.SWhile:
		m.loop++
		s.X, s.Then = m.expr(2), m.block(depth+1)
		m.loop--
	case api.SReturn:
		if s.Has = m.pick(2) == 0; s.Has {
			s.X = m.expr(2)
		}
	}
	return s
}

// label answers one that was not there, mostly.
func (m *maker) label() string {
	if len(m.ends) > 0 && m.isWild() {
		return m.ends[m.pick(len(m.ends))]
	}
	label := "l" + string(rune('a'+len(m.ends)/26)) + string(rune('a'+len(m.ends)%26))
	m.ends = append(m.ends, label)
	return label
}

// call makes s a call of a procedure other than the first one, which is main.
func (m *maker) call(s *api.Stmt) {
	proc := m.p.Procs[1+m.pick(len(m.p.Procs)-1)]
	order := m.dice.Perm(len(m.vars))
	next := func() string {
		if len(order) == 0 || m.isWild() {
			return m.name()
		}
		at := order[0]
		order = order[1:]
		return m.vars[at]
	}
	if s.Proc = proc.Name; m.isWild() {
		s.Proc = []string{"main", "none", "fa"}[m.pick(3)]
	}
	if m.pick(2) == 0 {
		s.Name = next()
	}
	for _, param := range proc.Params {
		if param.Ref != m.isWild() {
			s.Args = append(s.Args, ref(next()))
		} else {
			s.Args = append(s.Args, val(m.expr(1+m.pick(3))))
		}
	}
}

func (m *maker) program(n, wild int) api.Program {
	m.left, m.wild = n, wild
	m.p = api.Program{Globals: []string{"g", "h"}[:m.pick(3)], Procs: []api.Proc{{Name: "main", Vars: []string{"v", "w"}}}}
	for i := range m.pick(5) {
		proc := api.Proc{Name: "f" + string(rune('a'+i)), Vars: []string{"v", "w"}[:1+m.pick(2)]}
		for j := range m.pick(4) {
			proc.Params = append(proc.Params, api.Param{Name: "p" + string(rune('a'+j)), Ref: m.pick(3) > 0})
		}
		m.p.Procs = append(m.p.Procs, proc)
	}
	p := tree.Number(m.p)
	for i, proc := range p.Procs {
		m.vars, m.ends = scope.Vars(p, proc.Name), nil
		m.p.Procs[i].Body = m.block(1)
		m.p.Procs[i].End = []string{"e"}
		if m.isWild() {
			m.p.Procs[i].End = append(m.p.Procs[i].End, m.label())
		}
	}
	m.dice.Shuffle(len(m.p.Procs), func(i, j int) { m.p.Procs[i], m.p.Procs[j] = m.p.Procs[j], m.p.Procs[i] })
	return tree.Number(m.p)
}

func TestRandomPrograms(t *testing.T) {
	m := &maker{dice: rand.New(rand.NewSource(15))}
	count := map[api.Errno]int{}
	for i := range 4000 {
		p := m.program(20, 4<<(i%8))
		want := lowest(p)
		count[want.Code]++
		holdAll(t, p, want)
		if want == (api.Fault{}) {
			holdProgram(t, print.Text(p), p)
		} else {
			holdText(t, print.Text(p), want)
		}
		if t.Failed() {
			t.FailNow()
		}
	}
	for code, least := range map[api.Errno]int{api.OK: 500, api.ErrName: 500, api.ErrArity: 100, api.ErrLabel: 100, api.ErrAlias: 100} {
		if count[code] < least {
			t.Errorf("%d programs have the fault %d", count[code], code)
		}
	}
}
