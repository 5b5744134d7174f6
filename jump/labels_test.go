package jump

import (
	"reflect"
	"slices"
	"strings"
	"testing"

	"whittler/api"
	"whittler/tree"
)

func TestLabelsOfAnOrdinaryProgram(t *testing.T) {
	p := ordinary()
	holdLabels(t, p, "main", "l", "m", "n", "o", "q", "e", "end")
	holdLabels(t, p, "f", "l")
	holdLabels(t, p, "k", "e")
	for _, s := range []string{"", "g", "x", "l", "F", "ff", "kk", "mai", "main ", "\x00", "while", strings.Repeat("f", 100000)} {
		holdLabels(t, p, s)
	}
}

func TestLabels(t *testing.T) {
	for _, c := range []struct{ text, want string }{
		{"", ""},
		{"l:", "l"},
		{"m: l:", "m l"},
		{"print 1; print 2;", ""},
		{"l: print 1;", "l"},
		{"m: l: k: print 1;", "m l k"},
		{"print 1; l: print 2; print 3; m:", "l m"},
		{"b: print 1; a: print 2; d: c:", "b a d c"},
		// The labels of a statement stand ahead of those in it, those of its Then ahead of its Else, and these ahead of what follows.
		{"a: if (1) { b: print 1; c: print 5; } else { d: print 2; e: f: print 3; } g: print 4; h:", "a b c d e f g h"},
		{"if (1) { } else { b: print 1; } a:", "b a"},
		{"if (1) { b: print 1; } a:", "b a"},
		{"c: while (1) { b: print 1; } a:", "c b a"},
		{"e: while (1) { d: if (2) { c: while (3) { b: break; } } else { a: while (4) { z: y: continue; } x: print 1; } w: print 2; } v: u:", "e d c b a z y x w v u"},
		{"if (1) { if (2) { h: print 1; } else { g: print 2; } } else { if (3) { f: print 3; } else { e: print 4; } }", "h g f e"},
		// Statements of all kinds have labels.
		{"a: x = 1; b: read x; c: print x; d: x = f(); e: f(); g: if (1) { } h: while (1) { i: break; j: continue; } k: return 1; l: return; m: goto a;", "a b c d e g h i j k l m"},
		// Where a jump leads is no label.
		{"goto a; l: goto b; goto c; a: c: b:", "l a c b"},
		// What is there several times is told as often.
		{"a: a: print 1; b: a: print 2; a: b: a:", "a a b a a b a"},
		{"a: if (1) { a: print 1; } else { a: print 2; } a:", "a a a a"},
		// A label may be called like anything else.
		{"x: main: print 1; f: x:", "x main f x"},
	} {
		p := read(t, "proc main() { var x; "+c.text+" } proc f() { y: print 1; z: z: }")
		holdLabels(t, p, "main", strings.Fields(c.want)...)
		holdLabels(t, p, "f", "y", "z", "z")
		p = read(t, "proc f() { if (1) { y: print 1; } z: z: } proc main() { var x; "+c.text+" }")
		holdLabels(t, p, "main", strings.Fields(c.want)...)
		holdLabels(t, p, "f", "y", "z", "z")
	}
}

func TestAtOfAnOrdinaryProgram(t *testing.T) {
	p := ordinary()
	places := map[string]map[string]int{
		"main": {"l": 1, "m": 2, "n": 2, "o": 5, "q": 10, "e": api.Exit, "end": api.Exit},
		"f":    {"l": 13}, "k": {"e": api.Exit},
		// There are no such procedures.
		"": nil, "g": nil, "x": nil, "l": nil, "ff": nil, "F": nil, "mai": nil, strings.Repeat("k", 100000): nil,
	}
	names := []string{"l", "m", "n", "o", "q", "e", "end", "", "a", "b", "x", "g", "f", "k", "main", "en", "ende", "L", "l ", "l:", "\x00", "\xff", "while", strings.Repeat("l", 100000)}
	for proc, places := range places {
		for _, label := range names {
			if want := places[label]; want != 0 {
				holdAt(t, p, proc, label, want)
			} else {
				holdNowhere(t, p, proc, label)
			}
		}
	}
}

func TestAt(t *testing.T) {
	const none = 0
	for _, c := range []struct {
		text string
		want int
	}{
		{"", none},
		{"a:", api.Exit},
		{"b: a: c:", api.Exit},
		{"print 1; a:", api.Exit},
		{"a: print 1;", 1},
		{"b: a: print 1;", 1},
		{"a: b: print 1;", 1},
		{"c: a: b: print 1;", 1},
		{"print 1; a: print 2; print 3;", 2},
		{"print 1; print 2; a: print 3;", 3},
		// Another one, or a jump to it, is not it.
		{"b: print 1; aa: print 2; c:", none},
		{"goto a;", none},
		{"goto a; b: goto a;", none},
		{"goto a; b: goto a; a:", api.Exit},
		{"goto a; b: goto a; a: print 1;", 3},
		// Of several the first statement, in the order of ids, and a statement ahead of the end.
		{"a: print 1; a: print 2;", 1},
		{"b: print 1; a: print 2; a: print 3; a:", 2},
		{"a: a: print 1; a:", 1},
		{"print 1; a: a: print 2; a: a:", 2},
		{"print 1; print 2; a: a:", api.Exit},
		{"print 1; a: print 2; b: a:", 2},
		{"if (1) { a: print 1; } a: print 2;", 2},
		{"if (1) { a: print 1; } else { a: print 2; } a: print 3;", 2},
		{"if (1) { b: print 1; } else { a: print 2; } a: print 3;", 3},
		{"if (1) { b: print 1; } else { c: print 2; } a: print 3;", 4},
		{"if (1) { print 1; print 2; } else { print 3; a: print 4; } a:", 5},
		{"a: if (1) { a: print 1; } else { a: print 2; } a: print 3;", 1},
		{"while (1) { if (2) { a: print 1; } } a: print 2;", 3},
		{"while (1) { if (2) { } else { b: a: break; } a: break; } a: print 2;", 3},
		{"while (1) { if (2) { } else { break; } a: break; } a: print 2;", 4},
		{"while (1) { a: while (2) { a: while (3) { a: print 1; } } }", 2},
		{"while (1) { while (2) { while (3) { a: print 1; } } } a:", 4},
	} {
		for i, text := range []string{
			"proc main() { " + c.text + " } proc f() { b: print 1; a: b: }",
			"proc f() { a: print 1; while (1) { a: print 2; } a: } proc main() { " + c.text + " }",
			"proc main() { " + c.text + " } proc f() { a: }",
			"global a; proc a() { var main; } proc main() { " + c.text + " }",
		} {
			p, want := read(t, text), c.want
			if i == 1 && want > 0 {
				want += 3
			}
			if want == none {
				holdNowhere(t, p, "main", "a")
			} else {
				holdAt(t, p, "main", "a", want)
			}
		}
	}
}

// A label is found at each of many statements, and at the end of each procedure.
func TestEachPlaceOfMany(t *testing.T) {
	for id := 0; id <= 200; id++ {
		p := many()
		want := id
		for i := range p.Procs {
			lay(p.Procs[i].Body, id, "here")
		}
		if id == 0 {
			p.Procs[3].End, want = []string{"here"}, api.Exit
		}
		for i, proc := range p.Procs {
			if here := i == max(id-1, 0)/25; id > 0 && here || id == 0 && i == 3 {
				holdAt(t, p, proc.Name, "here", want)
				holdLabels(t, p, proc.Name, "here")
			} else {
				holdNowhere(t, p, proc.Name, "here")
				holdLabels(t, p, proc.Name)
			}
		}
		holdCheck(t, p, api.Fault{})
	}
}

// many has eight procedures of 25 statements each.
func many() api.Program {
	p := api.Program{}
	for _, s := range strings.Fields("a b c main d e f h") {
		loop := api.Stmt{Kind: api.SWhile, X: num(1), Then: []api.Stmt{{Kind: api.SBreak}, {Kind: api.SIf, X: num(1), Then: []api.Stmt{{Kind: api.SBreak}}, Else: []api.Stmt{{Kind: api.SContinue}}}}}
		p.Procs = append(p.Procs, api.Proc{Name: s, Body: slices.Repeat([]api.Stmt{loop}, 5)})
	}
	return tree.Number(p)
}

// lay lays a label at the statement with an id.
func lay(block []api.Stmt, id int, label string) {
	for i := range block {
		if block[i].Id == id {
			block[i].Labels = append(block[i].Labels, label)
		}
		lay(block[i].Then, id, label)
		lay(block[i].Else, id, label)
	}
}

// Modifying what is answered affects nothing else.
func TestLabelsAreNew(t *testing.T) {
	p := roomy(ordinary())
	part(&p)
	before := snapshot(p)
	a, b := Labels(p, "main"), Labels(p, "main")
	holdApart(t, slices.Concat(spans(p), spans(a), spans(b)))
	for i := range a[:cap(a)] {
		a[:cap(a)][i] = "spoilt"
	}
	if !reflect.DeepEqual(snapshot(p), before) {
		t.Errorf("P0.3: a label that is changed changes the program")
	}
	holdLabels(t, p, "main", b...)
	holdLabels(t, p, "main", "l", "m", "n", "o", "q", "e", "end")
	// The labels of a lone statement, and of a lone end, are no piece of the program either.
	for _, main := range []api.Proc{
		{Name: "main", Body: []api.Stmt{{Id: 1, Kind: api.SBreak, Labels: []string{"a", "b", "c"}}}},
		{Name: "main", End: []string{"a", "b", "c"}},
	} {
		p = roomy(api.Program{Procs: []api.Proc{main}})
		part(&p)
		got := Labels(p, "main")
		holdApart(t, slices.Concat(spans(p), spans(got)))
		got = append(got, "spoilt")
		got[0] = "spoilt"
		holdLabels(t, p, "main", "a", "b", "c")
	}
}

// There is no limit to how many labels a place has.
func TestVeryManyLabels(t *testing.T) {
	p := read(t, "proc main() { print 1; goto last; last: } proc f() { print 2; }")
	row := slices.Repeat([]string{"a", "b"}, 300000)
	p.Procs[0].Body[0].Labels = row
	p.Procs[0].Body[1].Labels = append(slices.Clone(row), "c")
	p.Procs[0].End = append(slices.Clone(row), "last", "d")
	if got := Labels(p, "main"); !slices.Equal(got, slices.Concat(row, row, []string{"c"}, row, []string{"last", "d"})) {
		t.Errorf("P8.1: %d labels of very many", len(got))
	}
	for label, want := range map[string]int{"a": 1, "b": 1, "c": 2, "d": api.Exit, "last": api.Exit} {
		if got, ok := At(p, "main", label); got != want || !ok {
			t.Errorf("P8.1: of very many labels, At(p, %q) = %d, %v", label, got, ok)
		}
	}
	if got, ok := At(p, "main", "none"); got != 0 || ok {
		t.Errorf("P8.1: of very many labels, one that is not there is at %d, %v", got, ok)
	}
	if got := Check(p); got != fault(1) {
		t.Errorf("P8.2: Check of very many labels = %v", got)
	}
	if got := Labels(p, "f"); len(got) != 0 {
		t.Errorf("P8.1: labels of another procedure, %q", got)
	}
}

func TestVeryManyDistinctLabels(t *testing.T) {
	var row []string
	for i := range 200000 {
		s := ""
		for n := i; len(s) < 6; n /= 26 {
			s += string(rune('a' + n%26))
		}
		row = append(row, s)
	}
	p := read(t, "proc main() { print 1; while (1) { } }")
	p.Procs[0].Body[0].Labels, p.Procs[0].Body[1].Labels, p.Procs[0].End = row[:70000], row[70000:130000], row[130000:]
	for id := 3; id <= 200; id++ {
		p.Procs[0].Body[1].Then = append(p.Procs[0].Body[1].Then, api.Stmt{Id: id, Kind: api.SGoto, Name: row[id*1000-1]})
	}
	if got := Check(p); got != (api.Fault{}) {
		t.Errorf("P8.2: Check of very many distinct labels = %v", got)
	}
	p.Procs[0].End = append(slices.Clone(row[130000:]), row[0])
	if got := Check(p); got != fault(0) {
		t.Errorf("P8.2: Check of very many labels of which the last is the first = %v", got)
	}
	p.Procs[0].Body[1].Then[100].Name = "a"
	if got := Check(p); got != fault(103) {
		t.Errorf("P8.2: Check of very many labels of which none is meant = %v", got)
	}
}
