package jump

import (
	"cmp"
	"math"
	"slices"
	"testing"

	"whittler/api"
	"whittler/lex"
	"whittler/print"
)

// line is what the text of a program tells about a statement, or (its id is api.Exit) about the end of a procedure.
type line struct {
	proc   int // the how many-th
	id     int
	labels []string
	word   string // the first of it
	target string // the second of it
	loops  []int  // those around it, from the outermost on
}

// linesOf reads the text of a program token by token: a name ahead of a colon is a label, a statement
// begins where one may, and what is around it are the brackets that are open.
func linesOf(t *testing.T, p api.Program) []line {
	t.Helper()
	tokens, fault := lex.All(print.Text(p))
	if fault != (api.Fault{}) {
		t.Fatalf("the text of %s has the fault %v", short(p), fault)
	}
	var out []line
	next := line{proc: -1}
	id, at := 0, 0
	var open []int // for each open bracket of a procedure the loop that it opens, or 0
	skip := func(text string) {
		for tokens[at].Text != text {
			at++
		}
		at++
	}
	for tokens[at].Kind != api.TEnd {
		switch word := tokens[at].Text; {
		case word == "global" || word == "var":
			skip(";")
		case word == "proc":
			next.proc++
			open = []int{0}
			skip("{")
		case tokens[at+1].Text == ":":
			next.labels = append(next.labels, word)
			at += 2
		case word == "}":
			open = open[:len(open)-1]
			at++
			if tokens[at].Text == "else" {
				open = append(open, 0)
				at += 2
			} else if len(open) == 0 {
				next.id, next.word = api.Exit, word
				out = append(out, next)
				next = line{proc: next.proc}
			}
		default:
			id++
			next.id, next.word, next.target = id, word, tokens[at+1].Text
			next.loops = slices.DeleteFunc(slices.Clone(open), func(loop int) bool { return loop == 0 })
			out = append(out, next)
			next = line{proc: next.proc}
			switch word {
			case "while":
				open = append(open, id)
				skip("{")
			case "if":
				open = append(open, 0)
				skip("{")
			default:
				skip(";")
			}
		}
	}
	return out
}

// wantedFault gathers all faults of a program with right names and answers the first of them.
func wantedFault(t *testing.T, p api.Program) api.Fault {
	t.Helper()
	lines := linesOf(t, p)
	all := map[[2]int]bool{} // of a procedure and an id, that of an end behind all others
	for i, l := range lines {
		place := [2]int{l.proc, l.id}
		if l.id == api.Exit {
			place[1] = math.MaxInt
		}
		for j, label := range l.labels {
			for k, other := range lines {
				if other.proc == l.proc && (k < i && slices.Contains(other.labels, label) || k == i && slices.Contains(l.labels[:j], label)) {
					all[place] = true
				}
			}
		}
		if (l.word == "break" || l.word == "continue") && len(l.loops) == 0 {
			all[place] = true
		}
		there := slices.ContainsFunc(lines, func(other line) bool { return other.proc == l.proc && slices.Contains(other.labels, l.target) })
		if l.word == "goto" && !there {
			all[place] = true
		}
	}
	places := make([][2]int, 0, len(all))
	for place := range all {
		places = append(places, place)
	}
	slices.SortFunc(places, func(a, b [2]int) int { return cmp.Or(cmp.Compare(a[0], b[0]), cmp.Compare(a[1], b[1])) })
	switch {
	case len(places) == 0:
		return api.Fault{}
	case places[0][1] == math.MaxInt:
		return fault(0)
	}
	return fault(places[0][1])
}

// namesOf answers all labels of a program and all that its jumps lead to.
func namesOf(lines []line) []string {
	var all []string
	for _, l := range lines {
		all = append(all, l.labels...)
		if l.word == "goto" {
			all = append(all, l.target)
		}
	}
	slices.Sort(all)
	return slices.Compact(all)
}

// holdAll holds all that is answered for a program with right names against what its text tells.
func holdAll(t *testing.T, p api.Program) {
	t.Helper()
	lines := linesOf(t, p)
	for i, proc := range p.Procs {
		var labels []string
		first := map[string]int{}
		for _, l := range lines {
			if l.proc != i {
				continue
			}
			labels = append(labels, l.labels...)
			for _, label := range l.labels {
				if first[label] == 0 {
					first[label] = l.id
				}
			}
		}
		holdLabels(t, p, proc.Name, labels...)
		for _, label := range append([]string{"a", "b", "l", "e"}, namesOf(lines)...) {
			if want := first[label]; want == 0 {
				holdNowhere(t, p, proc.Name, label)
			} else {
				holdAt(t, p, proc.Name, label, want)
			}
		}
	}
	for _, l := range lines {
		switch n := len(l.loops); {
		case l.id == api.Exit || n == 0:
			holdLoop(t, p, l.id, 0)
		default:
			holdLoop(t, p, l.id, l.loops[n-1])
		}
	}
	holdCheck(t, p, wantedFault(t, p))
}
