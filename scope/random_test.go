package scope

import (
	"cmp"
	"math/rand"
	"slices"
	"testing"

	"whittler/api"
	"whittler/lex"
	"whittler/print"
	"whittler/tree"
)

// found is a fault, with what it is ordered by: a program's own are of the procedure -1.
type found struct{ proc, id int }

// wantedFault gathers all faults of a program and answers the first of them.
func wantedFault(t *testing.T, p api.Program) api.Fault {
	t.Helper()
	var all []found
	procs, globals := map[string]int{}, map[string]int{}
	for i, proc := range p.Procs {
		procs[proc.Name]++
		if proc.Name == "main" && len(proc.Params) > 0 || procs[proc.Name] > 1 {
			all = append(all, found{-1, 0})
		}
		if twice(p, i) {
			all = append(all, found{i, 0})
		}
	}
	for _, s := range p.Globals {
		if globals[s]++; globals[s] > 1 {
			all = append(all, found{-1, 0})
		}
	}
	if procs["main"] == 0 {
		all = append(all, found{-1, 0})
	}
	for id := 1; id <= tree.Count(p); id++ {
		where, s, _ := tree.Find(p, id)
		i := slices.IndexFunc(p.Procs, func(proc api.Proc) bool { return proc.Name == where })
		if misnames(t, p, i, s, procs) {
			all = append(all, found{i, id})
		}
	}
	if len(all) == 0 {
		return api.Fault{}
	}
	slices.SortFunc(all, func(a, b found) int { return cmp.Or(cmp.Compare(a.proc, b.proc), cmp.Compare(a.id, b.id)) })
	return wrong(all[0].id)
}

// declared answers how often each name is declared for a procedure, and how often by itself.
func declared(p api.Program, i int) (all, own map[string]int) {
	all, own = map[string]int{}, map[string]int{}
	for _, s := range p.Globals {
		all[s]++
	}
	for _, param := range p.Procs[i].Params {
		own[param.Name]++
		all[param.Name]++
	}
	for _, s := range p.Procs[i].Vars {
		own[s]++
		all[s]++
	}
	return all, own
}

func twice(p api.Program, i int) bool {
	all, own := declared(p, i)
	for s := range own {
		if all[s] > 1 {
			return true
		}
	}
	return false
}

// misnames takes the names of a statement from its text: one behind goto is a label, one ahead of a
// parenthesis is a procedure, and each other one is a variable.
func misnames(t *testing.T, p api.Program, i int, s api.Stmt, procs map[string]int) bool {
	t.Helper()
	s.Id, s.Labels, s.Then, s.Else = 1, nil, nil, nil
	tokens, fault := lex.All(print.Text(api.Program{Procs: []api.Proc{{Name: "p", Body: []api.Stmt{s}}}}))
	if fault != (api.Fault{}) {
		t.Fatalf("the text of %+v has the fault %v", s, fault)
	}
	all, _ := declared(p, i)
	for at := len("p(){"); at < len(tokens); at++ {
		n := tokens[at].Text
		switch {
		case tokens[at].Kind != api.TName || tokens[at-1].Text == "goto":
		case tokens[at+1].Text == "(":
			if n == "main" || procs[n] == 0 {
				return true
			}
		case all[n] == 0:
			return true
		}
	}
	return false
}

func TestAllSmallPrograms(t *testing.T) {
	stmts := []api.Stmt{
		{Kind: api.SBreak}, {Kind: api.SRead, Name: "a"}, {Kind: api.SPrint, X: name("b")}, {Kind: api.SGoto, Name: "c"},
		{Kind: api.SCall, Proc: "f"}, {Kind: api.SCall, Proc: "main", Name: "a"},
		{Kind: api.SIf, X: num(1), Then: []api.Stmt{{Kind: api.SBreak}}, Else: []api.Stmt{{Kind: api.SCall, Proc: "f", Args: []api.Arg{{X: name("a")}, {Ref: true, Name: "b"}}}}},
	}
	var procs []api.Proc
	for _, s := range []string{"main", "f"} {
		for _, names := range [][]string{nil, {"a"}, {"*b"}} {
			for _, vars := range [][]string{nil, {"a"}, {"b", "b"}} {
				for _, stmt := range stmts {
					procs = append(procs, api.Proc{Name: s, Params: params(names), Vars: vars, Body: []api.Stmt{stmt}})
				}
			}
		}
	}
	met := map[api.Fault]int{}
	for _, globals := range [][]string{nil, {"a"}, {"b", "b"}} {
		for _, first := range procs {
			holdWanted(t, tree.Number(api.Program{Globals: globals, Procs: []api.Proc{first}}), met)
			for _, second := range procs {
				holdWanted(t, tree.Number(api.Program{Globals: globals, Procs: []api.Proc{first, second}}), met)
			}
		}
	}
	for _, want := range []api.Fault{{}, wrong(0), wrong(1), wrong(2), wrong(3), wrong(4)} {
		if met[want] < 10 {
			t.Errorf("%d programs with the fault %v", met[want], want)
		}
	}
}

func holdWanted(t *testing.T, p api.Program, met map[api.Fault]int) {
	t.Helper()
	want := wantedFault(t, p)
	met[want]++
	if got := Check(p); got != want {
		t.Fatalf("P6.2: Check of\n%s = %v; want %v", print.Text(p), got, want)
	}
}

// maker makes programs by dice that fall alike each time, of names that are mostly right.
type maker struct {
	dice  *rand.Rand
	left  int      // how many statements may still be made
	wild  int      // a name of so many is any one
	vars  []string // those of the procedure that is made
	procs []string
}

func (m *maker) pick(n int) int { return m.dice.Intn(n) }

func (m *maker) any() string {
	return []string{"a", "b", "c", "f", "g", "main", "abcdefgh", "z9"}[m.pick(8)]
}

func (m *maker) of(names []string) string {
	if len(names) == 0 || m.pick(m.wild) == 0 {
		return m.any()
	}
	return names[m.pick(len(names))]
}

func (m *maker) expr(depth int) api.Expr {
	if kind := m.pick(6); depth == 1 || kind < 2 || len(m.vars) == 0 && m.pick(2) == 0 {
		if kind%2 == 0 || len(m.vars) == 0 && m.pick(m.wild) > 0 {
			return num(int64(m.pick(100)))
		}
		return name(m.of(m.vars))
	}
	op := api.XNeg + m.pick(api.XOr-api.XNeg+1)
	if op < api.XMul {
		return one(op, m.expr(depth-1))
	}
	return two(op, m.expr(depth-1), m.expr(depth-1))
}

func (m *maker) block(depth int) []api.Stmt {
	var out []api.Stmt
	for range m.pick(4) {
		if m.left > 0 && depth <= api.MaxNest {
			m.left--
			out = append(out, m.stmt(depth))
		}
	}
	return out
}

func (m *maker) stmt(depth int) api.Stmt {
	s := api.Stmt{Kind: 1 + m.pick(api.SGoto)}
	if m.pick(3) == 0 {
		s.Labels = []string{m.any()}
	}
	switch s.Kind {
	case api.SAssign:
		s.Name, s.X = m.of(m.vars), m.expr(4)
	case api.SRead:
		s.Name = m.of(m.vars)
	case api.SGoto:
		s.Name = m.any()
	case api.SPrint:
		s.X = m.expr(5)
	case api.SCall:
		s.Proc, s.Args = m.of(m.procs), m.args()
		if m.pick(2) == 0 {
			s.Name = m.of(m.vars)
		}
	case api.SIf:
		s.X, s.Then, s.Else = m.expr(3), m.block(depth+1), m.block(depth+1)
	case api.SWhile:
		s.X, s.Then = m.expr(3), m.block(depth+1)
	case api.SReturn:
		if s.Has = m.pick(2) == 0; s.Has {
			s.X = m.expr(3)
		}
	}
	return s
}

func (m *maker) args() []api.Arg {
	var out []api.Arg
	for range m.pick(4) {
		if m.pick(2) == 0 {
			out = append(out, api.Arg{Ref: true, Name: m.of(m.vars)})
		} else {
			out = append(out, api.Arg{X: m.expr(3)})
		}
	}
	return out
}

// draw takes some names out of a heap, so that they are mostly distinct.
func (m *maker) draw(heap *[]string, most int) []string {
	var out []string
	for range m.pick(most + 1) {
		if m.pick(4*m.wild) == 0 || len(*heap) == 0 {
			out = append(out, m.any())
			continue
		}
		out = append(out, (*heap)[0])
		*heap = (*heap)[1:]
	}
	return out
}

func (m *maker) heap() []string {
	names := []string{"a", "b", "c", "d", "f", "g", "h", "main", "abcdefgh", "z9", "v", "w"}
	m.dice.Shuffle(len(names), func(i, j int) { names[i], names[j] = names[j], names[i] })
	return names
}

func (m *maker) program() api.Program {
	heads := m.heap()
	names := append([]string{"main"}, slices.DeleteFunc(m.draw(&heads, 3), func(s string) bool { return s == "main" })...)
	m.dice.Shuffle(len(names), func(i, j int) { names[i], names[j] = names[j], names[i] })
	m.procs = slices.DeleteFunc(slices.Clone(names), func(s string) bool { return s == "main" })
	heap := m.heap()
	p := api.Program{Globals: m.draw(&heap, 3)}
	for _, s := range names {
		own := slices.Clone(heap)
		proc := api.Proc{Name: s, Vars: m.draw(&own, 3)}
		if s != "main" {
			for _, param := range m.draw(&own, 3) {
				proc.Params = append(proc.Params, api.Param{Name: param, Ref: m.pick(2) == 0})
			}
		}
		p.Procs = append(p.Procs, proc)
		m.vars = Vars(p, s)
		p.Procs[len(p.Procs)-1].Body = m.block(1)
		p = tree.Number(p)
	}
	return p
}

func TestRandomPrograms(t *testing.T) {
	m := &maker{dice: rand.New(rand.NewSource(6))}
	met := map[api.Fault]int{}
	for i := range 6000 {
		m.left, m.wild = 30, 1<<(2+i%5)
		holdWanted(t, m.program(), met)
	}
	inside := 0
	for id := 1; id <= 30; id++ {
		inside += met[wrong(id)]
	}
	if met[api.Fault{}] < 1000 || met[wrong(0)] < 200 || inside < 1000 {
		t.Errorf("%d right programs, %d faults at 0, %d at a statement", met[api.Fault{}], met[wrong(0)], inside)
	}
}

// A call is answered alike however often it is made, and whatever was asked ahead of it.
func TestAnswersHangOnArgumentsAlone(t *testing.T) {
	m := &maker{dice: rand.New(rand.NewSource(9))}
	var all []api.Program
	var first []api.Fault
	for range 50 {
		m.left, m.wild = 20, 8
		p := m.program()
		all, first = append(all, p), append(first, Check(p))
	}
	for i := len(all) - 1; i >= 0; i-- {
		if got := Check(all[i]); got != first[i] {
			t.Errorf("P0.5: Check answers %v and then %v", first[i], got)
		}
	}
}
