package jump

import (
	"math/rand"
	"slices"
	"testing"

	"whittler/api"
	"whittler/print"
	"whittler/scope"
	"whittler/tree"
)

// All programs of up to three small statements, in all ways in which they can stand, with all small ends.
func TestAllSmallPrograms(t *testing.T) {
	small := []string{"", "a: print 1; ", "b: print 2; ", "a: a: print 3; ", "break; ", "a: continue; ", "goto a; ", "b: goto b; "}
	frames := []string{"%1%2%3", "if (1) { %1} else { %2} %3", "while (1) { %1%2} %3", "%1b: while (1) { %2if (2) { %3} }", "a: if (1) { } %1if (2) { while (3) { %2} } else { %3}"}
	ends := []string{"", "a: ", "b: ", "a: a: "}
	right, faults := 0, 0
	for _, frame := range frames {
		for i := range len(small) * len(small) * len(small) {
			body := fill(frame, small[i%8], small[i/8%8], small[i/64])
			p := read(t, "proc main() { "+body+ends[i%3]+"} proc f() { "+fill(frame, small[i/64], small[i%8], "")+ends[i%4]+"}")
			holdAll(t, p)
			for _, end := range ends {
				p := read(t, "proc main() { "+body+end+"}")
				want := wantedFault(t, p)
				holdCheck(t, p, want)
				if want == (api.Fault{}) {
					right++
				} else {
					faults++
				}
			}
		}
	}
	if right < 400 || faults < 4000 {
		t.Errorf("%d small programs are right, %d are not", right, faults)
	}
}

// fill lays texts where a frame has %1, %2 and %3.
func fill(frame string, texts ...string) string {
	out := ""
	for i := 0; i < len(frame); i++ {
		if frame[i] == '%' {
			i++
			out += texts[frame[i]-'1']
		} else {
			out += frame[i : i+1]
		}
	}
	return out
}

// maker makes programs whose names are all right, by dice that fall alike each time.
type maker struct {
	dice   *rand.Rand
	left   int      // how many statements may still be made
	wild   int      // a label or a jump of so many is any one
	fresh  int      // how many labels the procedure has had
	labels []string // those that the procedure has had, and some that it will have
	loops  int      // how many loops are around the place
}

func (m *maker) pick(n int) int { return m.dice.Intn(n) }

func (m *maker) any() string { return []string{"a", "b", "la", "lb", "lc", "lz"}[m.pick(6)] }

// label answers one that the procedure has not had yet, mostly.
func (m *maker) label() string {
	if m.pick(m.wild) == 0 {
		return m.any()
	}
	m.fresh++
	return m.nth(m.fresh)
}

func (m *maker) nth(n int) string { return "l" + string(rune('a'+n/26)) + string(rune('a'+n%26)) }

func (m *maker) row() []string {
	var out []string
	for m.pick(3) == 0 {
		out = append(out, m.label())
	}
	return out
}

func (m *maker) block(depth int) []api.Stmt {
	var out []api.Stmt
	for range m.pick(5) {
		if m.left > 0 && depth <= api.MaxNest {
			m.left--
			out = append(out, m.stmt(depth))
		}
	}
	return out
}

func (m *maker) stmt(depth int) api.Stmt {
	s := api.Stmt{Kind: 1 + m.pick(api.SGoto), Labels: m.row()}
	if m.pick(3) == 0 {
		s.Kind = api.SIf + m.pick(2)
	}
	if (s.Kind == api.SBreak || s.Kind == api.SContinue) && m.loops == 0 && m.pick(m.wild) > 0 {
		s.Kind = api.SReturn
	}
	switch s.Kind {
	case api.SAssign:
		s.Name, s.X = "g", name("v")
	case api.SRead:
		s.Name = "v"
	case api.SPrint:
		s.X = two(api.XAdd, name("g"), num(1))
	case api.SCall:
		s.Proc = "f"
	case api.SIf:
		s.X, s.Then, s.Else = name("v"), m.block(depth+1), m.block(depth+1)
	case api.SWhile:
		m.loops++
		s.X, s.Then = name("v"), m.block(depth+1)
		m.loops--
	case api.SGoto:
		s.Name = m.nth(1 + m.pick(m.fresh+1))
	}
	return s
}

func (m *maker) program(n, wild int) api.Program {
	m.left, m.wild = n, wild
	p := api.Program{Globals: []string{"g"}}
	for _, s := range []string{"f", "main", "k"}[:2+m.pick(2)] {
		m.fresh, m.loops = 0, 0
		p.Procs = append(p.Procs, api.Proc{Name: s, Vars: []string{"v"}, Body: m.block(1), End: m.row()})
		if m.pick(m.wild) > 0 {
			m.mend(p.Procs[len(p.Procs)-1].Body)
		}
	}
	m.dice.Shuffle(len(p.Procs), func(i, j int) { p.Procs[i], p.Procs[j] = p.Procs[j], p.Procs[i] })
	return tree.Number(p)
}

// mend lays jumps to labels that there are.
func (m *maker) mend(block []api.Stmt) {
	for i := range block {
		s := &block[i]
		if s.Kind == api.SGoto && m.fresh == 0 {
			*s = api.Stmt{Kind: api.SReturn, Labels: s.Labels}
		} else if s.Kind == api.SGoto && m.pick(m.wild) > 0 {
			s.Name = m.nth(1 + m.pick(m.fresh))
		}
		m.mend(s.Then)
		m.mend(s.Else)
	}
}

func TestRandomPrograms(t *testing.T) {
	m := &maker{dice: rand.New(rand.NewSource(9))}
	right, faults, inside, ends := 0, 0, 0, 0
	for i := range 4000 {
		p := m.program(40, 1<<(i%8))
		if got := scope.Check(p); got != (api.Fault{}) {
			t.Fatalf("the names of\n%s have the fault %v", print.Text(p), got)
		}
		holdAll(t, p)
		if t.Failed() {
			t.Fatalf("the program is\n%s", print.Text(p))
		}
		want := wantedFault(t, p)
		switch {
		case want == (api.Fault{}):
			right++
			continue
		case want.At == 0:
			ends++
		}
		faults++
		where, _, _ := tree.Find(p, want.At)
		at := slices.IndexFunc(p.Procs, func(proc api.Proc) bool { return proc.Name == where })
		if at >= 0 && !slices.ContainsFunc(p.Procs[at].Body, func(s api.Stmt) bool { return s.Id == want.At }) {
			inside++
		}
	}
	if right < 1000 || faults < 1000 || inside < 500 || ends < 30 {
		t.Errorf("%d programs are right, %d have a fault, %d inside a statement, %d at an end", right, faults, inside, ends)
	}
}
