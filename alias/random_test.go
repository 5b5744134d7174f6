package alias

import (
	"math/rand"
	"slices"
	"testing"

	"whittler/api"
	"whittler/arity"
	"whittler/print"
	"whittler/scope"
	"whittler/tree"
)

// maker makes programs whose calls all hand in what is taken, by dice that fall alike each time.
type maker struct {
	dice *rand.Rand
	left int // how many statements may still be made
	wild int // a name that is handed in by reference, of so many, is any one
	p    api.Program
	vars []string // those of the procedure that is made
}

func (m *maker) pick(n int) int { return m.dice.Intn(n) }

func (m *maker) name() string {
	own := m.vars[len(m.p.Globals):]
	if len(own) > 0 && m.pick(m.wild) > 0 {
		return own[m.pick(len(own))]
	}
	return m.vars[m.pick(len(m.vars))]
}

func (m *maker) expr(depth int) api.Expr {
	switch kind := m.pick(5); {
	case depth == 1 && kind%2 == 0 || kind == 0:
		return num(int64(m.pick(100)))
	case depth == 1 || kind == 1:
		return name(m.name())
	}
	op := api.XNeg + m.pick(api.XOr-api.XNeg+1)
	if op < api.XMul {
		return one(op, m.expr(depth-1))
	}
	return two(op, m.expr(depth-1), m.expr(depth-1))
}

func (m *maker) block(depth int) []api.Stmt {
	var out []api.Stmt
	for range m.pick(5) {
		if m.left > 0 && depth <= api.MaxNest {
			m.left--
			out = append(out, m.stmt(depth))
		}
	}
	return out
}

func (m *maker) stmt(depth int) api.Stmt {
	s := api.Stmt{Kind: 1 + m.pick(api.SGoto)}
	if m.pick(4) == 0 {
		s.Kind = api.SCall
	} else if m.pick(3) == 0 {
		s.Kind = api.SIf
	}
	if len(m.p.Procs) == 1 && s.Kind == api.SCall {
		s.Kind = api.SIf
	}
	for m.pick(6) == 0 {
		s.Labels = append(s.Labels, m.name())
	}
	switch s.Kind {
	case api.SAssign:
		s.Name, s.X = m.name(), m.expr(3)
	case api.SRead, api.SGoto:
		s.Name = m.name()
	case api.SPrint:
		s.X = m.expr(3)
	case api.SCall:
		m.call(&s)
	case api.SIf:
		s.X, s.Then, s.Else = m.expr(2), m.block(depth+1), m.block(depth+1)
	case api.SWhile:
		s.X, s.Then = m.expr(2), m.block(depth+1)
	case api.SReturn:
		if s.Has = m.pick(2) == 0; s.Has {
			s.X = m.expr(2)
		}
	}
	return s
}

// call makes s a call of a procedure other than the first one, which is main. What it hands in by
// reference, and who receives what is given, mostly is each once.
func (m *maker) call(s *api.Stmt) {
	proc := m.p.Procs[1+m.pick(len(m.p.Procs)-1)]
	order := m.dice.Perm(len(m.vars))
	next := func() string {
		if m.pick(m.wild) == 0 || len(order) == 0 {
			return m.name()
		}
		at := order[0]
		order = order[1:]
		return m.vars[at]
	}
	s.Proc = proc.Name
	if m.pick(2) == 0 {
		s.Name = next()
	}
	for _, param := range proc.Params {
		if param.Ref {
			s.Args = append(s.Args, ref(next()))
		} else {
			s.Args = append(s.Args, val(m.expr(1+m.pick(3))))
		}
	}
}

func (m *maker) program(n, wild int) api.Program {
	m.left, m.wild = n, wild
	m.p = api.Program{Globals: []string{"g", "h", "i", "j", "k", "l", "m"}[:1+m.pick(7)], Procs: []api.Proc{{Name: "main", Vars: []string{"v", "w"}}}}
	for i := range m.pick(6) {
		proc := api.Proc{Name: "f" + string(rune('a'+i)), Vars: []string{"v", "w"}[:m.pick(3)]}
		for j := range m.pick(4) {
			proc.Params = append(proc.Params, api.Param{Name: "p" + string(rune('a'+j)), Ref: m.pick(3) > 0})
		}
		m.p.Procs = append(m.p.Procs, proc)
	}
	p := tree.Number(m.p)
	for i, proc := range p.Procs {
		m.vars = scope.Vars(p, proc.Name)
		m.p.Procs[i].Body = m.block(1)
	}
	m.dice.Shuffle(len(m.p.Procs), func(i, j int) { m.p.Procs[i], m.p.Procs[j] = m.p.Procs[j], m.p.Procs[i] })
	return tree.Number(m.p)
}

func TestRandomPrograms(t *testing.T) {
	m := &maker{dice: rand.New(rand.NewSource(12))}
	right, seconds, inside := 0, 0, 0
	for i := range 1500 {
		p := m.program(30, 2<<(i%6))
		if fault := arity.Check(p); fault != (api.Fault{}) {
			t.Fatalf("the calls of\n%s have the fault %v", print.Text(p), fault)
		}
		holdAll(t, p)
		if t.Failed() {
			t.FailNow()
		}
		want := wantedFault(t, p)
		if want == (api.Fault{}) {
			right++
			continue
		}
		seconds++
		where, _, _ := tree.Find(p, want.At)
		at := slices.IndexFunc(p.Procs, func(proc api.Proc) bool { return proc.Name == where })
		if !slices.ContainsFunc(p.Procs[at].Body, func(s api.Stmt) bool { return s.Id == want.At }) {
			inside++
		}
	}
	if right < 300 || seconds < 300 || inside < 200 {
		t.Errorf("%d programs are right, %d give a second name, %d inside a statement", right, seconds, inside)
	}
}

// Every call of random programs is asked in other programs too.
func TestRandomStatements(t *testing.T) {
	m := &maker{dice: rand.New(rand.NewSource(13))}
	fit, not := 0, 0
	p := m.program(20, 1)
	for range 2500 {
		q := m.program(20, 1)
		for id := 1; id <= tree.Count(q); id++ {
			_, s, _ := tree.Find(q, id)
			want := arity.Fits(p, s) && wantedFit(t, p, s)
			holdFits(t, p, s, want)
			if want {
				fit++
			} else if arity.Fits(p, s) {
				not++
			}
		}
		p = q
	}
	if fit < 200 || not < 80 {
		t.Errorf("%d calls fit, %d give a second name", fit, not)
	}
}
