package tree

import "whittler/api"

// cursor goes from node to node, each ahead of the nodes in it. It has a stack of its own, because
// trees of any shape are handed in, and one may be deeper than the stack of calls can grow.
type cursor[T any] struct {
	inner func(*T) (first, second []T)
	last  *T
	ahead [][]T // the lists still to be gone through, the next one last, and none of them empty
}

// stmts goes through a block and all the statements in it, in the order of their numbering.
func stmts(block []api.Stmt) *cursor[api.Stmt] {
	c := &cursor[api.Stmt]{inner: func(s *api.Stmt) (first, second []api.Stmt) { return s.Then, s.Else }}
	c.push(block)
	return c
}

// exprs goes through a list of expressions and all the expressions in it, from left to right.
func exprs(list []api.Expr) *cursor[api.Expr] {
	c := &cursor[api.Expr]{inner: func(x *api.Expr) (first, second []api.Expr) { return x.Kids, nil }}
	c.push(list)
	return c
}

// next answers the next node, or nil if there is none.
func (c *cursor[T]) next() *T {
	// What is in a node is asked as late as this, so that a caller can lay other lists into it first.
	if c.last != nil {
		first, second := c.inner(c.last)
		c.push(second)
		c.push(first)
	}
	c.last = c.pop()
	return c.last
}

func (c *cursor[T]) push(list []T) {
	if len(list) > 0 {
		c.ahead = append(c.ahead, list)
	}
}

func (c *cursor[T]) pop() *T {
	top := len(c.ahead) - 1
	if top < 0 {
		return nil
	}
	list := c.ahead[top]
	// A list is dropped with its last node: a long chain of lists of one node then takes no stack.
	if len(list) == 1 {
		c.ahead = c.ahead[:top]
	} else {
		c.ahead[top] = list[1:]
	}
	return &list[0]
}

// sameNodes reports whether two cursors meet the same nodes. If same holds the numbers of the nodes
// in a node against each other, then the trees are the same ones too.
func sameNodes[T any](a, b *cursor[T], same func(a, b *T) bool) bool {
	for {
		x, y := a.next(), b.next()
		if x == nil || y == nil {
			return x == nil && y == nil
		}
		if !same(x, y) {
			return false
		}
	}
}
