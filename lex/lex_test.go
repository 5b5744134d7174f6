package lex

import (
	"math"
	"math/big"
	"regexp"
	"slices"
	"strings"
	"testing"

	"whittler/api"
)

var keywords = []string{"global", "proc", "var", "ref", "if", "else", "while", "break", "continue", "return", "goto", "read", "print"}

var longSigns = []string{"==", "!=", "<=", ">=", "&&", "||"}

var shortSigns = []string{"(", ")", "{", "}", ",", ";", ":", "=", "!", "<", ">", "+", "-", "*", "/", "%"}

func name(s string, at int) api.Token { return api.Token{Kind: api.TName, Text: s, At: at} }

func word(s string, at int) api.Token { return api.Token{Kind: api.TWord, Text: s, At: at} }

func sign(s string, at int) api.Token { return api.Token{Kind: api.TSign, Text: s, At: at} }

func number(s string, n int64, at int) api.Token {
	return api.Token{Kind: api.TNumber, Text: s, N: n, At: at}
}

func end(at int) api.Token { return api.Token{Kind: api.TEnd, At: at} }

// short cuts a text to what a message can show.
func short(text string) string { return text[:min(len(text), 60)] }

func holdTokens(t *testing.T, text string, want ...api.Token) {
	t.Helper()
	got, fault := All(text)
	if fault != (api.Fault{}) || !slices.Equal(got, want) {
		t.Errorf("P2.2: All(%q) = %v, %v; want %v and no fault", short(text), got, fault, want)
	}
}

func holdFault(t *testing.T, text string, code api.Errno, at int) {
	t.Helper()
	got, fault := All(text)
	if fault != (api.Fault{Code: code, At: at}) || len(got) != 0 {
		t.Errorf("P2.2: All(%q) = %d tokens, %v; want none, {%d %d}", short(text), len(got), fault, code, at)
	}
}

// holdCount holds that a text has no fault and n tokens ahead of TEnd.
func holdCount(t *testing.T, text string, n int) {
	t.Helper()
	got, fault := All(text)
	if fault != (api.Fault{}) || len(got) != n+1 || got[n] != end(len(text)) {
		t.Errorf("P2.2: All(%q) = %d tokens, %v; want %d and TEnd", short(text), len(got), fault, n)
	}
}

func TestKeywords(t *testing.T) {
	for _, s := range keywords {
		if !Word(s) {
			t.Errorf("P2.1: Word(%q) = false", s)
		}
		if Name(s) {
			t.Errorf("P2.1: Name(%q) = true", s)
		}
		for _, other := range []string{s + " ", " " + s, s + "\x00", strings.ToUpper(s), s[1:], s[:len(s)-1] + "_"} {
			if Word(other) {
				t.Errorf("P2.1: Word(%q) = true", other)
			}
		}
	}
}

func TestIdentifiers(t *testing.T) {
	for _, s := range []string{"a", "z", "m", "a0", "z9", "ab", "x1y2", "i", "f", "fi", "iff", "ifs", "vars", "proc0", "globals", "abcdefg", "abcdefgh", "a1234567", "zzzzzzzz", "main", "in", "ret", "end"} {
		if !Name(s) || Word(s) {
			t.Errorf("P2.1: Name(%q), Word = %t, %t; want true, false", s, Name(s), Word(s))
		}
	}
	for _, s := range []string{"", "0", "9a", "0abc", "A", "Z", "aB", "If", "a_b", "_a", "a-b", "a b", " a", "a ", "a\n", "\na", "a\x00", "\x00", "$in", "$ret", "a$", "`", "{", "a`", "a{", "a/", "a:", "é", "aé", "\xe9", "a\xff", "abcdefghi", "a12345678", "continued", strings.Repeat("a", 100000)} {
		if Name(s) || Word(s) {
			t.Errorf("P2.1: Name(%q), Word = %t, %t; want false, false", short(s), Name(s), Word(s))
		}
	}
}

func TestIdentifiersOfOneAndTwoBytes(t *testing.T) {
	first, later := regexp.MustCompile(`^[a-z]$`), regexp.MustCompile(`^[a-z][a-z0-9]$`)
	for a := range 256 {
		s := string([]byte{byte(a)})
		if Name(s) != first.MatchString(s) || Word(s) {
			t.Errorf("P2.1: Name(%q), Word = %t, %t", s, Name(s), Word(s))
		}
		for b := range 256 {
			s := string([]byte{byte(a), byte(b)})
			if Word(s) != (s == "if") || Name(s) != (later.MatchString(s) && s != "if") {
				t.Errorf("P2.1: Name(%q), Word = %t, %t", s, Name(s), Word(s))
			}
		}
	}
}

func TestTokens(t *testing.T) {
	holdTokens(t, "proc main() { x = y1 + 20; }",
		word("proc", 0), name("main", 5), sign("(", 9), sign(")", 10), sign("{", 12), name("x", 14), sign("=", 16),
		name("y1", 18), sign("+", 21), number("20", 20, 23), sign(";", 25), sign("}", 27), end(28))
	holdTokens(t, "l:goto l;", name("l", 0), sign(":", 1), word("goto", 2), name("l", 7), sign(";", 8), end(9))
	holdTokens(t, "1a9", number("1", 1, 0), name("a9", 1), end(3))
	holdTokens(t, "0a 0", number("0", 0, 0), name("a", 1), number("0", 0, 3), end(4))
	holdTokens(t, "10", number("10", 10, 0), end(2))
	holdTokens(t, "-5", sign("-", 0), number("5", 5, 1), end(2))
	holdTokens(t, "a0", name("a0", 0), end(2))
	holdTokens(t, "abcdefgh a1234567", name("abcdefgh", 0), name("a1234567", 9), end(17))
}

func TestKeywordTokens(t *testing.T) {
	for _, s := range keywords {
		holdTokens(t, s, word(s, 0), end(len(s)))
		holdTokens(t, s+";", word(s, 0), sign(";", len(s)), end(len(s)+1))
	}
	holdTokens(t, "iff if1 if", name("iff", 0), name("if1", 4), word("if", 8), end(10))
	holdTokens(t, "1if", number("1", 1, 0), word("if", 1), end(3))
}

func TestSpacesAndComments(t *testing.T) {
	holdTokens(t, "", end(0))
	holdTokens(t, " \t\n\r", end(4))
	holdTokens(t, "a b\tc\nd\re", name("a", 0), name("b", 2), name("c", 4), name("d", 6), name("e", 8), end(9))
	holdTokens(t, "a#b\nc", name("a", 0), name("c", 4), end(5))
	holdTokens(t, "a#b\rc", name("a", 0), end(5))
	holdTokens(t, "#", end(1))
	holdTokens(t, "#\n", end(2))
	holdTokens(t, "##\n#x", end(5))
	holdTokens(t, "1#2", number("1", 1, 0), end(3))
	holdTokens(t, "=#\n=", sign("=", 0), sign("=", 3), end(4))
	holdTokens(t, "= =", sign("=", 0), sign("=", 2), end(3))
	holdTokens(t, "# A 00 & \x00\xff abcdefghi\nx", name("x", 22), end(23))
	for _, b := range []string{"\v", "\f", "\x00", "\u0085", "\u00a0"} {
		holdFault(t, "a"+b+"b", api.ErrLex, 1)
	}
}

func TestSigns(t *testing.T) {
	for _, s := range slices.Concat(longSigns, shortSigns) {
		holdTokens(t, s, sign(s, 0), end(len(s)))
		holdTokens(t, "a"+s+"1", name("a", 0), sign(s, 1), number("1", 1, 1+len(s)), end(2+len(s)))
	}
	holdTokens(t, "====!==", sign("==", 0), sign("==", 2), sign("!=", 4), sign("=", 6), end(7))
	holdTokens(t, "===", sign("==", 0), sign("=", 2), end(3))
	holdTokens(t, "=<=>!", sign("=", 0), sign("<=", 1), sign(">", 3), sign("!", 4), end(5))
	holdTokens(t, "!!=", sign("!", 0), sign("!=", 1), end(3))
	holdTokens(t, "&&&&||", sign("&&", 0), sign("&&", 2), sign("||", 4), end(6))
	holdTokens(t, "(){}", sign("(", 0), sign(")", 1), sign("{", 2), sign("}", 3), end(4))
}

func TestEveryLoneByte(t *testing.T) {
	for b := range 256 {
		s := string([]byte{byte(b)})
		switch {
		case strings.Contains(" \t\n\r#", s):
			holdTokens(t, s, end(1))
		case b >= 'a' && b <= 'z':
			holdTokens(t, s, name(s, 0), end(1))
		case b >= '0' && b <= '9':
			holdTokens(t, s, number(s, int64(b-'0'), 0), end(1))
		case slices.Contains(shortSigns, s):
			holdTokens(t, s, sign(s, 0), end(1))
		default:
			holdFault(t, s, api.ErrLex, 0)
			holdFault(t, "ab "+s+" cd", api.ErrLex, 3)
		}
	}
}

func TestNumbers(t *testing.T) {
	holdTokens(t, "9223372036854775807", number("9223372036854775807", math.MaxInt64, 0), end(19))
	holdTokens(t, "9223372036854775799", number("9223372036854775799", 9223372036854775799, 0), end(19))
	holdTokens(t, "1000000000000000000", number("1000000000000000000", 1000000000000000000, 0), end(19))
	holdTokens(t, "1 0 20", number("1", 1, 0), number("0", 0, 2), number("20", 20, 4), end(6))
	for _, s := range []string{
		"9223372036854775808", "9223372036854775809", "9223372036854775810", "9999999999999999999", "10000000000000000000",
		"18446744073709551615", "18446744073709551616", "20496382304121724020", "25000000000000000000", "18446744073709551617", "27670116110564327424", "92233720368547758070",
		"36893488147419103232", "100000000000000000000", "1" + strings.Repeat("0", 64), strings.Repeat("9", 99999),
	} {
		holdFault(t, s, api.ErrLimit, 0)
	}
	for _, s := range []string{"00", "01", "007", "0123456789", "09223372036854775808", "0" + strings.Repeat("9", 99999)} {
		holdFault(t, s, api.ErrLex, 0)
	}
	holdFault(t, "x 9223372036854775808", api.ErrLimit, 2)
	holdTokens(t, "a00", name("a00", 0), end(3))
}

func TestLongNames(t *testing.T) {
	holdFault(t, "abcdefghi", api.ErrLimit, 0)
	holdFault(t, "x abcdefgh1", api.ErrLimit, 2)
	holdFault(t, "continued", api.ErrLimit, 0)
	holdFault(t, "continue1", api.ErrLimit, 0)
	holdFault(t, "1abcdefghi", api.ErrLimit, 1)
	holdFault(t, strings.Repeat("a", 100000), api.ErrLimit, 0)
}

func TestLeftmostFault(t *testing.T) {
	holdFault(t, "ab 01", api.ErrLex, 3)
	holdFault(t, "? 01", api.ErrLex, 0)
	holdFault(t, "01 abcdefghi", api.ErrLex, 0)
	holdFault(t, "abcdefghi 01", api.ErrLimit, 0)
	holdFault(t, "abcdefghi?", api.ErrLimit, 0)
	holdFault(t, "x 9223372036854775808 ?", api.ErrLimit, 2)
	holdFault(t, "x ? 9223372036854775808", api.ErrLex, 2)
	holdFault(t, "abcdefghA", api.ErrLex, 8)
	holdFault(t, "a & b", api.ErrLex, 2)
	holdFault(t, "a &", api.ErrLex, 2)
	holdFault(t, "&&&", api.ErrLex, 2)
	holdFault(t, "|& |", api.ErrLex, 0)
	holdFault(t, "#?\n?", api.ErrLex, 3)
}

func TestTokenLimit(t *testing.T) {
	for _, s := range []string{"a", "if", "7", "==", ";"} {
		row := strings.Repeat(s+" ", 2000)
		holdCount(t, row, 2000)
		holdCount(t, row+"# x", 2000)
		for _, last := range []string{"a", "print", "5", "==", "("} {
			holdFault(t, row+last, api.ErrLimit, len(row))
			holdFault(t, row+last+" ?", api.ErrLimit, len(row))
		}
		for _, last := range []string{"?", "00", "&", "\xff"} {
			holdFault(t, row+last, api.ErrLex, len(row))
		}
		holdFault(t, row+"abcdefghi", api.ErrLimit, len(row))
		holdFault(t, row+"9223372036854775808", api.ErrLimit, len(row))
		holdFault(t, row+" \n 01 a", api.ErrLex, len(row)+3)
	}
	holdCount(t, strings.Repeat(";", 1999), 1999)
	holdCount(t, strings.Repeat(";", 2000), 2000)
	holdFault(t, strings.Repeat(";", 2001), api.ErrLimit, 2000)
	holdFault(t, strings.Repeat(";", 100000), api.ErrLimit, 2000)
	holdFault(t, "?"+strings.Repeat(";", 2001), api.ErrLex, 0)
}

func TestTextLimit(t *testing.T) {
	for _, b := range []string{" ", "\n", "#", "\t", "\r"} {
		holdCount(t, strings.Repeat(b, 100000), 0)
		holdFault(t, strings.Repeat(b, 100001), api.ErrLimit, 0)
	}
	holdCount(t, strings.Repeat(" ", 99999)+"a", 1)
	holdFault(t, strings.Repeat(" ", 99999)+"?", api.ErrLex, 99999)
	holdFault(t, strings.Repeat(" ", 100000)+"a", api.ErrLimit, 0)
	holdFault(t, "?"+strings.Repeat(" ", 100000), api.ErrLimit, 0)
	holdFault(t, "a 01"+strings.Repeat(" ", 1000000), api.ErrLimit, 0)
}

func TestResultsAreFresh(t *testing.T) {
	const text = "if (x <= 12) { y = 0; }"
	first, _ := All(text)
	want := slices.Clone(first)
	for i := range first[:cap(first)] {
		first[:cap(first)][i] = api.Token{Kind: -1, Text: "spoilt", N: -1, At: -1}
	}
	if second, fault := All(text); fault != (api.Fault{}) || !slices.Equal(second, want) {
		t.Errorf("P0.3: a second call answers %v, %v; want %v", second, fault, want)
	}
}

var (
	gapShape   = regexp.MustCompile(`^(?:[ \t\r\n]|#[^\n]*)+`)
	wordShape  = regexp.MustCompile(`^[a-z][a-z0-9]*`)
	digitShape = regexp.MustCompile(`^[0-9]+`)
	signShape  = regexp.MustCompile(`^(?:==|!=|<=|>=|&&|\|\||[(){},;:=!<>+\-*/%])`)
)

// oracle reads one token by patterns, of texts that keep to the limits of bytes and of tokens.
func oracle(rest string, at int) (api.Token, api.Errno) {
	if s := wordShape.FindString(rest); s != "" {
		if slices.Contains(keywords, s) {
			return word(s, at), api.OK
		}
		if len(s) > 8 {
			return api.Token{}, api.ErrLimit
		}
		return name(s, at), api.OK
	}
	if s := digitShape.FindString(rest); s != "" {
		n, _ := new(big.Int).SetString(s, 10)
		if n.String() != s {
			return api.Token{}, api.ErrLex
		}
		if !n.IsInt64() {
			return api.Token{}, api.ErrLimit
		}
		return number(s, n.Int64(), at), api.OK
	}
	if s := signShape.FindString(rest); s != "" {
		return sign(s, at), api.OK
	}
	return api.Token{}, api.ErrLex
}

func holdOracle(t *testing.T, text string) {
	t.Helper()
	var want []api.Token
	at := 0
	for {
		at += len(gapShape.FindString(text[at:]))
		if at == len(text) {
			holdTokens(t, text, append(want, end(at))...)
			return
		}
		token, code := oracle(text[at:], at)
		if code != api.OK {
			holdFault(t, text, code, at)
			return
		}
		want = append(want, token)
		at += len(token.Text)
	}
}

// spread calls do for each row of up to n of the pieces.
func spread(pieces []string, n int, head string, do func(string)) {
	do(head)
	if n == 0 {
		return
	}
	for _, piece := range pieces {
		spread(pieces, n-1, head+piece, do)
	}
}

func TestAgainstPatterns(t *testing.T) {
	hold := func(text string) { holdOracle(t, text) }
	spread([]string{"a", "0", "1", "=", "!", "<", "&", "|", "#", "\n", " ", ";", "?", "A"}, 4, "", hold)
	spread([]string{"if", "f", "abcdefg", "9223372036854775807", "9", "0", "==", ">", "\t", "#", "\n", "\xff", "é"}, 4, "", hold)
}
