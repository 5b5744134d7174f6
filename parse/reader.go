package parse

import (
	"whittler/api"
	"whittler/lex"
)

// reader goes through the tokens of a text from left to right.
//
// The first fault that it meets is the one that is told. From there on it stands at TEnd, which no
// rule of the grammar takes: whoever is reading finds nothing more that fits and comes to an end,
// without being asked at every step whether there was a fault.
type reader struct {
	tokens []api.Token // the last one is TEnd
	at     int
	fault  api.Fault
	stmts  int // how many statements have begun
}

// readAll reads a whole text by a rule of the grammar.
func readAll[T any](text string, rule func(*reader) T) (T, api.Fault) {
	var none T
	tokens, fault := lex.All(text)
	if fault.Code != api.OK {
		return none, fault
	}
	r := &reader{tokens: tokens}
	out := rule(r)
	if r.token().Kind != api.TEnd {
		r.refuse()
	}
	if r.fault.Code != api.OK {
		return none, r.fault
	}
	return out, api.Fault{}
}

func (r *reader) token() api.Token { return r.tokens[r.at] }

func (r *reader) fail(code api.Errno, at int) {
	if r.fault.Code == api.OK {
		r.fault = api.Fault{Code: code, At: at}
	}
	r.at = len(r.tokens) - 1
}

// refuse tells that the token does not fit the grammar.
func (r *reader) refuse() { r.fail(api.ErrParse, r.token().At) }

// hold tells the token, which fits the grammar, as one too many if there are already as many as may be.
func (r *reader) hold(n, most int) {
	if n >= most {
		r.fail(api.ErrLimit, r.token().At)
	}
}

// sees reports whether the token is the keyword or sign with this text. The text alone tells it: no
// name and no number is written as one of them, and TEnd has none.
func (r *reader) sees(text string) bool { return r.token().Text == text }

// seesNameAnd reports whether the token is a name, and the one behind it this sign.
func (r *reader) seesNameAnd(sign string) bool {
	// Behind a name there is another token, TEnd at the least.
	return r.seesName() && r.tokens[r.at+1].Text == sign
}

func (r *reader) seesName() bool { return r.token().Kind == api.TName }

// skip goes past the token if it is the one with this text, and reports whether it was.
func (r *reader) skip(text string) bool {
	if !r.sees(text) {
		return false
	}
	r.at++
	return true
}

// want goes past the one token that fits.
func (r *reader) want(text string) {
	if !r.skip(text) {
		r.refuse()
	}
}

// name goes past a name, the only token that fits.
func (r *reader) name() string {
	if !r.seesName() {
		r.refuse()
		return ""
	}
	name := r.token().Text
	r.at++
	return name
}

// countedName goes past a name ahead of which there are n, of as many as may be.
func (r *reader) countedName(n, most int) string {
	// A token that is no name is refused as that, and not as one too many.
	if r.seesName() {
		r.hold(n, most)
	}
	return r.name()
}
