package check

import (
	"math/rand"
	"reflect"
	"strings"
	"testing"

	"whittler/api"
	"whittler/parse"
	"whittler/print"
	"whittler/tree"
)

func TestExamplesOfTheChapter(t *testing.T) {
	holdText(t, "proc main() { abcdefghi = 1; }", fault(api.ErrLimit, 14))
	holdText(t, "", fault(api.ErrName, 0))
}

func TestTextsOfValidPrograms(t *testing.T) {
	holdProgram(t, print.Text(ordinary()), ordinary())
	holdProgram(t, "proc main(){}", api.Program{Procs: []api.Proc{{Name: "main"}}})
	holdProgram(t, "# what is told\r\nglobal g; # a comment\n\tproc main( ) { var x ; l : x = - ( 1 + g ) ; e : }", api.Program{Globals: []string{"g"}, Procs: []api.Proc{
		{Name: "main", Vars: []string{"x"}, Body: []api.Stmt{{Id: 1, Kind: api.SAssign, Labels: []string{"l"}, Name: "x", X: one(api.XNeg, two(api.XAdd, num(1), name("g")))}}, End: []string{"e"}},
	}})
}

// A text without a program has the fault of what reads it, whatever else would be wrong.
func TestTextsWithoutAProgram(t *testing.T) {
	for _, c := range []struct {
		text string
		code api.Errno
		at   int
	}{
		{"?", api.ErrLex, 0}, {"proc main() { ? }", api.ErrLex, 14}, {"proc main() { x = 01; }", api.ErrLex, 18}, {"proc main() { print 1; } \x00", api.ErrLex, 25},
		{"proc main() { print none; } ?", api.ErrLex, 28}, {"proc main() { break; } ?", api.ErrLex, 23},
		{strings.Repeat(" ", api.MaxText+1), api.ErrLimit, 0}, {"proc abcdefghi() { }", api.ErrLimit, 5}, {"proc main() { print none; } proc abcdefghi() { }", api.ErrLimit, 33},
		{"x", api.ErrParse, 0}, {"proc", api.ErrParse, 4}, {"proc main() { print; }", api.ErrParse, 19}, {"proc main() { x 1; }", api.ErrParse, 16}, {"proc main() { ", api.ErrParse, 14}, {"proc main() { } main", api.ErrParse, 16},
		{"global g, g; proc f() { break }", api.ErrParse, 30}, {"proc main() { print none; none(); break; l: l: print 1 }", api.ErrParse, 55}, {"proc main() { var x; f(ref x, ref x) } proc f(ref a, ref b) { }", api.ErrParse, 37},
		{"global " + strings.Join(strings.Split("abcdefghijklmnopq", ""), ",") + ";", api.ErrLimit, 7 + 2*16},
		{"proc main(){" + strings.Repeat("if(1){", 12) + "main();" + strings.Repeat("}", 12) + "}", api.ErrLimit, 12 + 6*12},
		{"proc main() { print " + strings.Repeat("-", 20) + "none; }", api.ErrLimit, 20},
	} {
		holdText(t, c.text, fault(c.code, c.at))
		if _, got := parse.Parse(c.text); got != fault(c.code, c.at) {
			t.Errorf("P4.1: parse.Parse(%q) has the fault %v", c.text, got)
		}
	}
}

// Each beginning of a text, and each text with one byte less or another one, is held against what
// its reader and the checks tell.
func TestEveryTextBesideOne(t *testing.T) {
	text := print.Text(ordinary())
	count := map[api.Errno]int{}
	hold := func(text string) {
		p, fault := parse.Parse(text)
		if fault == (api.Fault{}) {
			fault = lowest(p)
		}
		if count[fault.Code]++; fault == (api.Fault{}) {
			holdProgram(t, text, p)
		} else {
			holdText(t, text, fault)
		}
	}
	for at := range text {
		hold(text[:at])
		hold(text[:at] + text[at+1:])
		for _, c := range []string{"?", "a", "b", "x", "l", "k", "1", ";", "+", " ref ", "}", "{", "("} {
			hold(text[:at] + c + text[at:])
			hold(text[:at] + c + text[at+1:])
		}
	}
	for code, least := range map[api.Errno]int{api.OK: 300, api.ErrLex: 200, api.ErrParse: 1000, api.ErrName: 200, api.ErrArity: 20, api.ErrLabel: 20, api.ErrAlias: 5} {
		if count[code] < least {
			t.Errorf("%d texts have the fault %d", count[code], code)
		}
	}
}

func TestAnyText(t *testing.T) {
	dice := rand.New(rand.NewSource(14))
	for a := range 256 {
		for b := range 256 {
			if p, fault := Text(string([]byte{byte(a), byte(b)})); fault == (api.Fault{}) || !reflect.ValueOf(p).IsZero() {
				t.Errorf("P11.1: Text of %q = %v, %v", []byte{byte(a), byte(b)}, p, fault)
			}
		}
	}
	for range 3000 {
		text := make([]byte, dice.Intn(60))
		for i := range text {
			text[i] = byte(dice.Intn(256))
		}
		if p, fault := Text(string(text)); fault == (api.Fault{}) && (!May(p) || !strings.Contains(string(text), "main")) || fault != (api.Fault{}) && !reflect.ValueOf(p).IsZero() {
			t.Errorf("P11.1: Text of %q = %v, %v", text, p, fault)
		}
	}
	holdText(t, strings.Repeat("proc main() { } ", 17), fault(api.ErrLimit, 16*16))
	holdText(t, strings.Repeat("proc main() { } ", 16), fault(api.ErrName, 0))
	holdText(t, strings.Repeat("x", 1<<20), fault(api.ErrLimit, 0))
}

func TestResultsAreNew(t *testing.T) {
	text := strings.Clone(print.Text(ordinary()))
	first, _ := Text(text)
	second, _ := Text(text)
	holdApart(t, append(append(spans(first), spans(second)...), spans(text)...))
	within(&first, func(_ string, v reflect.Value) {
		if v.Kind() == reflect.String {
			v.SetString("q")
		}
	})
	if !tree.Eq(second, ordinary()) {
		t.Errorf("P0.3: a changed result changes another one")
	}
	holdProgram(t, text, ordinary())
}
