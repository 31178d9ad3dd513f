package witness

import (
	"slices"

	"scriptory/api"
	"scriptory/machine"
)

const (
	mostBytes = 1000 // of the words that are counted
	mostWords = 1000 // that are listed
)

// Count returns how many words of n bytes d takes, modulo 2^64.
func Count(d api.Dfa, n int) uint64 {
	if n < 0 || !machine.May(d) {
		return 0
	}
	bytes := sizes(d)
	counts := make([]uint64, len(d.Next))
	for s, end := range d.Ends {
		if end {
			counts[s] = 1
		}
	}
	for range min(n, mostBytes) {
		counts = longer(d, bytes, counts)
	}
	return counts[start]
}

// sizes returns, by class, how many bytes have it.
func sizes(d api.Dfa) []uint64 {
	l := make([]uint64, machine.Classes(d))
	for _, c := range d.Class {
		l[c]++
	}
	return l
}

// longer returns, by state, how many words lead from it to an end, of words of one byte more than those of counts.
func longer(d api.Dfa, bytes, counts []uint64) []uint64 {
	l := make([]uint64, len(counts))
	for s, row := range d.Next {
		for c, to := range row {
			l[s] += bytes[c] * counts[to]
		}
	}
	return l
}

// Words returns the first words of n bytes that d takes, at most most of them, in ascending order.
func Words(d api.Dfa, n, most int) [][]byte {
	if most < 1 || n < 0 || n > api.MaxWord || !machine.May(d) {
		return nil
	}
	s := search{d: d, left: left(d, n), most: min(most, mostWords)}
	if s.left[n][start] {
		s.visit(start, n)
	}
	return s.words
}

// left returns, by number of bytes up to n, by state, whether a word of so many leads from it to an end. (Count can't tell: it is 0 of 2^64 words, too.)
func left(d api.Dfa, n int) [][]bool {
	l := [][]bool{d.Ends}
	for k := range n {
		row := make([]bool, len(d.Next))
		for s := range row {
			row[s] = slices.ContainsFunc(d.Class[:], func(c uint8) bool { return l[k][d.Next[s][c]] })
		}
		l = append(l, row)
	}
	return l
}

// search goes through the words of a machine, and only where some are left, so that each way that it goes ends in one.
type search struct {
	d     api.Dfa
	left  [][]bool
	most  int
	word  []byte // that led here
	words [][]byte
}

// visit finds the words that lead on by n bytes from a state that has such.
func (s *search) visit(state, n int) {
	if n == 0 {
		s.words = append(s.words, slices.Clone(s.word))
		return
	}
	for b, c := range s.d.Class {
		if len(s.words) == s.most {
			return
		}
		to := s.d.Next[state][c]
		if s.left[n-1][to] {
			s.word = append(s.word, byte(b))
			s.visit(to, n-1)
			s.word = s.word[:len(s.word)-1]
		}
	}
}
