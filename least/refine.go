package least

import "scriptory/api"

// refine returns the states of d in parts, each of equivalent ones in ascending order, by Hopcroft's refinement.
func refine(d api.Dfa) [][]int {
	p := newPartition(len(d.Next))
	p.cut(ends(d))
	links := turned(d)
	// The parts are their own queue: what is split off has its turn behind all others. The half that keeps its place needs no second turn: it tells nothing apart that the whole and the other half don't.
	for at := 0; at < len(p.parts); at++ {
		for _, from := range links {
			p.cut(sources(from, p.parts[at]))
		}
	}
	return p.parts
}

// turned returns the steps of d the other way round: by class that bytes have, by state, the states that it is led to from.
func turned(d api.Dfa) (links [][][]int) {
	for _, c := range used(d) {
		from := make([][]int, len(d.Next))
		for s, to := range column(d, int(c)) {
			from[to] = append(from[to], s)
		}
		links = append(links, from)
	}
	return links
}

// sources returns the states that lead to one of to. By one class each leads to one state, so that none is there twice.
func sources(from [][]int, to []int) (l []int) {
	for _, s := range to {
		l = append(l, from[s]...)
	}
	return l
}

// ends returns the states that end a word.
func ends(d api.Dfa) (l []int) {
	for s, end := range d.Ends {
		if end {
			l = append(l, s)
		}
	}
	return l
}

// partition is the states of a machine in parts.
type partition struct {
	parts [][]int // of each part, its states, in ascending order
	at    []int   // by state: the number of its part
	in    []bool  // by state: whether the parts are being cut by it
	count []int   // by part: by how many of its states
}

// newPartition returns n states in one part.
func newPartition(n int) *partition {
	p := &partition{at: make([]int, n), in: make([]bool, n), count: make([]int, n)}
	all := make([]int, n)
	for s := range all {
		all[s] = s
	}
	p.parts = [][]int{all}
	return p
}

// cut splits each part that has some states of l, but not them alone. No state is in l twice. Its steps are as many as l has states, beside those of splits, of which there are few in all.
func (p *partition) cut(l []int) {
	var touched []int
	for _, s := range l {
		if p.count[p.at[s]] == 0 {
			touched = append(touched, p.at[s])
		}
		p.count[p.at[s]]++
		p.in[s] = true
	}
	for _, part := range touched {
		if p.count[part] < len(p.parts[part]) {
			p.split(part)
		}
		p.count[part] = 0
	}
	for _, s := range l {
		p.in[s] = false
	}
}

// split makes two parts of one: the states that are in, and the rest. The smaller one gets the new number, and a turn of its own with it, so that a state has few turns.
func (p *partition) split(part int) {
	var less, more []int
	for _, s := range p.parts[part] {
		if p.in[s] {
			less = append(less, s)
		} else {
			more = append(more, s)
		}
	}
	if len(less) > len(more) {
		less, more = more, less
	}
	for _, s := range less {
		p.at[s] = len(p.parts)
	}
	p.parts[part] = more
	p.parts = append(p.parts, less)
}
