package lang

import (
	"scriptory/api"
	"scriptory/byteset"
)

// In tells whether w is a word of r.
func In(r api.Rx, w []byte) bool {
	if large(r) || len(w) > api.MaxWord {
		return false
	}
	return byteset.Has(match(r, w).ends(place(0)), byte(len(w)))
}

// matcher is an expression that is asked about one word. The places in that word, the one behind its last byte included, are bytes, since MaxWord is one: a set of places is a set of bytes.
type matcher struct {
	kind  int
	hits  api.Set // of an RxSet: the places where a byte of it stands
	parts []*matcher

	// An RxStar is gone through again and again, so it keeps what round was asked already: table has the answers of the places in known. An RxStar without its one part has no table.
	known api.Set
	table []api.Set
}

// match makes an expression ready to be asked about w.
func match(r api.Rx, w []byte) *matcher {
	m := &matcher{kind: r.Kind}
	switch {
	case r.Kind == api.RxSet:
		m.hits = hits(r.Set, w)
	case r.Kind == api.RxStar && len(r.Args) == 1:
		m.table = make([]api.Set, len(w)+1)
	}
	for _, x := range r.Args {
		m.parts = append(m.parts, match(x, w))
	}
	return m
}

// ends returns the places where a word of m ends that begins at one of from.
func (m *matcher) ends(from api.Set) (to api.Set) {
	switch m.kind {
	case api.RxEmpty:
		return from
	case api.RxSet:
		return behind(byteset.And(from, m.hits))
	case api.RxCat:
		for _, x := range m.parts {
			from = x.ends(from)
		}
		return from
	case api.RxAlt:
		for _, x := range m.parts {
			to = byteset.Or(to, x.ends(from))
		}
	case api.RxStar:
		return m.rounds(from)
	}
	return to
}

// rounds returns the places where any number of words of the part of m ends, the first of which begins at one of from.
func (m *matcher) rounds(from api.Set) api.Set {
	// No word goes back, so that each place is found ahead of its turn.
	for at := range m.table {
		if byteset.Has(from, byte(at)) {
			from = byteset.Or(from, m.round(byte(at)))
		}
	}
	return from
}

// round returns the places where a word of the part of m ends that begins at this one.
func (m *matcher) round(at byte) api.Set {
	if !byteset.Has(m.known, at) {
		m.known = byteset.Or(m.known, place(at))
		m.table[at] = m.parts[0].ends(place(at))
	}
	return m.table[at]
}

// place returns the set of one place.
func place(at byte) api.Set { return byteset.Range(at, at) }

// hits returns the places in w where a byte of s stands.
func hits(s api.Set, w []byte) api.Set {
	var l []byte
	for at, b := range w {
		if byteset.Has(s, b) {
			l = append(l, byte(at))
		}
	}
	return byteset.Of(l)
}

// behind returns the places each of which is right behind one in s.
func behind(s api.Set) api.Set {
	var carry uint64
	for i, w := range s {
		s[i], carry = w<<1|carry, w>>63
	}
	return s
}
