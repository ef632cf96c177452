package mem

import (
	"cenotaph/api"
	"cenotaph/mut"
)

// node is a mutation, what is ahead of it, and what is behind, of which neither is deeper by more than one. A node stays as it is: a tree with a mutation more has other nodes above that one. No node is an empty tree.
type node struct {
	m             api.Mut
	ahead, behind *node
	deep          int
}

// depth: how many nodes at most stand one below another.
func (x *node) depth() int {
	if x == nil {
		return 0
	}
	return x.deep
}

// with: a tree with a mutation more; false: it has it already.
func (x *node) with(m api.Mut) (*node, bool) {
	if x == nil {
		return join(mut.Copy(m), nil, nil), true
	}
	ahead, behind := x.ahead, x.behind
	more := false
	switch way := Compare(m, x.m); {
	case way < 0:
		ahead, more = ahead.with(m)
	case way > 0:
		behind, more = behind.with(m)
	}
	if !more {
		return x, false
	}
	return balance(x.m, ahead, behind), true
}

// each hands on all whose key is no less, in order, till no more is wanted; is more wanted?
func (x *node) each(key string, yield func(api.Mut) bool) bool {
	if x == nil {
		return true
	}
	if x.m.Key >= key {
		if !x.ahead.each(key, yield) || !yield(mut.Copy(x.m)) {
			return false
		}
	}
	return x.behind.each(key, yield)
}

// join: a mutation, what is ahead of it, and what is behind, as they stand.
func join(m api.Mut, ahead, behind *node) *node {
	return &node{m: m, ahead: ahead, behind: behind, deep: 1 + max(ahead.depth(), behind.depth())}
}

// balance: likewise, but where one of the two is deeper by two, what is deepest in it is lifted.
func balance(m api.Mut, ahead, behind *node) *node {
	switch ahead.depth() - behind.depth() {
	case 2:
		if ahead.behind.depth() > ahead.ahead.depth() {
			ahead = liftBehind(ahead.m, ahead.ahead, ahead.behind)
		}
		return liftAhead(m, ahead, behind)
	case -2:
		if behind.ahead.depth() > behind.behind.depth() {
			behind = liftAhead(behind.m, behind.ahead, behind.behind)
		}
		return liftBehind(m, ahead, behind)
	}
	return join(m, ahead, behind)
}

// liftAhead: likewise, with the node that is ahead as the uppermost one.
func liftAhead(m api.Mut, ahead, behind *node) *node {
	return join(ahead.m, ahead.ahead, join(m, ahead.behind, behind))
}

// liftBehind: likewise, with the one that is behind.
func liftBehind(m api.Mut, ahead, behind *node) *node {
	return join(behind.m, join(m, ahead, behind.ahead), behind.behind)
}
