package machine

import (
	"slices"

	"scriptory/api"
)

// Reach tells for each state whether some word leads to it from the start.
func Reach(d api.Dfa) []bool {
	if !May(d) {
		return nil
	}
	return spread(steps(d), []int{start})
}

// Live tells for each state whether some word leads from it to one that ends a word.
func Live(d api.Dfa) []bool {
	if !May(d) {
		return nil
	}
	return spread(turned(steps(d)), ends(d))
}

// steps returns, by state, where single bytes lead from it.
func steps(d api.Dfa) [][]int {
	l := make([][]int, len(d.Next))
	classes := used(d)
	for s, row := range d.Next {
		for _, c := range classes {
			l[s] = append(l[s], row[c])
		}
	}
	return l
}

// used returns the classes that bytes have. A row has places for others too, but no word goes by them.
func used(d api.Dfa) []uint8 {
	l := slices.Clone(d.Class[:])
	slices.Sort(l)
	return slices.Compact(l)
}

// turned returns the links the other way round: by state, where they come from.
func turned(links [][]int) [][]int {
	l := make([][]int, len(links))
	for from, row := range links {
		for _, to := range row {
			l[to] = append(l[to], from)
		}
	}
	return l
}

// ends returns the states that end a word.
func ends(d api.Dfa) (l []int) {
	for s, end := range d.Ends {
		if end {
			l = append(l, s)
		}
	}
	return l
}

// spread tells for each state whether any number of links, none too, lead to it from one of found, which has no state twice.
func spread(links [][]int, found []int) []bool {
	in := make([]bool, len(links))
	for _, s := range found {
		in[s] = true
	}
	// What is found on the way has its turn, too.
all:
	for at := 0; at < len(found); at++ {
		for _, to := range links[found[at]] {
			if in[to] {
				continue
			}
			in[to] = true
			found = append(found, to)
			// There may be far more links than states: none of the rest has anything to add then.
			if len(found) == len(links) {
				break all
			}
		}
	}
	return in
}
