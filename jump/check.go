package jump

import "whittler/api"

// Check answers the first fault of a program's labels and jumps.
func Check(p api.Program) api.Fault {
	if !named(p) {
		return api.Fault{Code: api.ErrForm}
	}
	for _, proc := range p.Procs {
		if at, ok := wrong(proc); ok {
			return api.Fault{Code: api.ErrLabel, At: at}
		}
	}
	return api.Fault{}
}

// wrong answers where the first fault of a procedure is, and whether there is one.
func wrong(proc api.Proc) (int, bool) {
	targets, before := labels(proc), map[string]bool{}
	for s, loop := range statements(proc.Body) {
		if again(before, s.Labels) || !lands(s, loop, targets) {
			return s.Id, true
		}
	}
	return 0, again(before, proc.End)
}

// labels answers all labels of a procedure. It is a set, for there may be very many of them.
func labels(proc api.Proc) map[string]bool {
	all := map[string]bool{}
	for s := range statements(proc.Body) {
		again(all, s.Labels)
	}
	again(all, proc.End)
	return all
}

// again lays labels into a set, one by one, and reports whether one of them was there already.
func again(before map[string]bool, labels []string) bool {
	twice := false
	for _, label := range labels {
		twice = twice || before[label]
		before[label] = true
	}
	return twice
}

// lands reports whether s, in a loop (0: in none), is not a jump to nowhere.
func lands(s api.Stmt, loop int, targets map[string]bool) bool {
	switch s.Kind {
	case api.SBreak, api.SContinue:
		return loop != 0
	case api.SGoto:
		return targets[s.Name]
	}
	return true
}
