package jump

import (
	"iter"

	"whittler/api"
)

// statements goes through the statements of a body and all that is in them, in the order of their ids,
// each with the id of the innermost loop around it; 0 if there is none.
func statements(body []api.Stmt) iter.Seq2[api.Stmt, int] {
	return func(yield func(api.Stmt, int) bool) { walk(body, 0, yield) }
}

// walk reports whether yield has asked for more to the end of a block. It may call itself, because the
// program is known to be well-formed and so not deep.
func walk(block []api.Stmt, loop int, yield func(api.Stmt, int) bool) bool {
	for _, s := range block {
		inner := loop
		if s.Kind == api.SWhile {
			inner = s.Id
		}
		if !yield(s, loop) || !walk(s.Then, inner, yield) || !walk(s.Else, inner, yield) {
			return false
		}
	}
	return true
}
