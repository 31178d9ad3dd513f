package thompson

import (
	"slices"

	"scriptory/api"
	"scriptory/byteset"
)

const (
	mostStates = 2000
	mostFree   = 8 // of a state
)

// May tells whether n is valid.
func May(n api.Nfa) bool {
	// The count goes first, so that no call takes long.
	if len(n.States) > mostStates || !has(n, n.Start) || !has(n, n.End) {
		return false
	}
	for _, s := range n.States {
		if s.To >= len(n.States) || len(s.Free) > mostFree {
			return false
		}
		for _, to := range s.Free {
			if !has(n, to) {
				return false
			}
		}
	}
	return true
}

// Close returns the states of l, and those that they reach without a byte.
func Close(n api.Nfa, l []int) []int {
	if !May(n) {
		return nil
	}
	g := newGroup(n)
	for _, s := range l {
		g.add(s)
	}
	g.close()
	return g.sorted()
}

// Step returns the states that those of l reach by b, and those that these reach without a byte.
func Step(n api.Nfa, l []int, b byte) []int {
	if !May(n) {
		return nil
	}
	g := newGroup(n)
	g.step(l, b)
	return g.sorted()
}

// Run tells whether w leads n from its start to its end.
func Run(n api.Nfa, w []byte) bool {
	if !May(n) {
		return false
	}
	at, next := newGroup(n), newGroup(n)
	at.add(n.Start)
	at.close()
	for _, b := range w {
		next.clear()
		next.step(at.list, b)
		at, next = next, at
	}
	return at.in[n.End]
}

// has tells whether n has a state of this number.
func has(n api.Nfa, state int) bool { return state >= 0 && state < len(n.States) }

// group is a set of states of n: those of list, in the order in which they came in. By in, each of them is there once.
type group struct {
	n    api.Nfa
	in   []bool
	list []int
}

// newGroup returns a group of no states.
func newGroup(n api.Nfa) *group { return &group{n: n, in: make([]bool, len(n.States))} }

// add puts a state in. What is no state is ignored.
func (g *group) add(state int) {
	if has(g.n, state) && !g.in[state] {
		g.in[state] = true
		g.list = append(g.list, state)
	}
}

// close puts in what is reached without a byte.
func (g *group) close() {
	// The list grows on the way: what comes in has its turn, too.
	for i := 0; i < len(g.list); i++ {
		for _, to := range g.n.States[g.list[i]].Free {
			g.add(to)
		}
	}
}

// step puts in what the states of from reach by b, and what that reaches without a byte.
func (g *group) step(from []int, b byte) {
	for _, s := range from {
		if has(g.n, s) && byteset.Has(g.n.States[s].Set, b) {
			g.add(g.n.States[s].To)
		}
	}
	g.close()
}

// clear takes all states out. It goes by the list, since a word may be long, and few states at a time be in.
func (g *group) clear() {
	for _, s := range g.list {
		g.in[s] = false
	}
	g.list = g.list[:0]
}

// sorted returns the states in ascending order.
func (g *group) sorted() []int {
	slices.Sort(g.list)
	return g.list
}
