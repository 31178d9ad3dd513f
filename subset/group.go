package subset

import "math/bits"

const (
	mostStates = 2000 // of a valid machine: see thompson.May
	word       = 64   // how many states a number of a group tells of
)

// group is a set of states of a valid machine: s is in it, if bit s mod word of its number s / word is 1. As an array it is a key that a map takes as it is.
type group [(mostStates + word - 1) / word]uint64

// groupOf returns the group of the states of l.
func groupOf(l []int) (g group) {
	for _, s := range l {
		g[s/word] |= 1 << (s % word)
	}
	return g
}

// has tells whether state s is in g.
func (g *group) has(s int) bool { return g[s/word]>>(s%word)&1 == 1 }

// join puts the states of more in.
func (g *group) join(more *group) {
	for i, w := range more {
		g[i] |= w
	}
}

// states returns the states in g, in ascending order.
func (g *group) states() (l []int) {
	for i, w := range g {
		// Each round takes the lowest bit away, so that the next one is the lowest then.
		for ; w != 0; w &= w - 1 {
			l = append(l, i*word+bits.TrailingZeros64(w))
		}
	}
	return l
}
