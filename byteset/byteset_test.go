package byteset

import (
	"bytes"
	"slices"
	"testing"

	"scriptory/api"
)

// marks is a set said byte by byte.
type marks [256]bool

// set writes the set of these marks: bit b mod 64 of number b / 64.
func (m marks) set() (s api.Set) {
	for b, in := range m {
		if in {
			s[b/64] += 1 << uint(b%64)
		}
	}
	return s
}

// list returns the marked bytes in their order.
func (m marks) list() (l []byte) {
	for b, in := range m {
		if in {
			l = append(l, byte(b))
		}
	}
	return l
}

// mark returns the marks of the bytes for which in holds.
func mark(in func(b int) bool) (m marks) {
	for b := range m {
		m[b] = in(b)
	}
	return m
}

// edges has bytes at the edges of the numbers of a set.
var edges = []int{0, 1, 31, 32, 62, 63, 64, 65, 126, 127, 128, 129, 190, 191, 192, 193, 254, 255}

// mixer gives numbers that seem to have no order, the same ones in each run.
type mixer uint64

func (m *mixer) next() uint64 {
	*m = *m*6364136223846793005 + 1442695040888963407
	return uint64(*m >> 33)
}

// marked returns n sets with one byte of each few or many.
func marked(n int, seed uint64) (l []marks) {
	numbers := mixer(seed)
	for range n {
		few := numbers.next()%40 + 1
		l = append(l, mark(func(int) bool { return numbers.next()%few == 0 }))
	}
	return l
}

// some has sets of every sort: none, all, single bytes and pairs at the edges, runs, every other byte, mixed ones, and what each lacks.
func some() (l []marks) {
	l = append(l, marks{}, mark(func(b int) bool { return b%2 == 0 }), mark(func(b int) bool { return b%64 == 63 }))
	for _, x := range edges {
		l = append(l, mark(func(b int) bool { return b == x }), mark(func(b int) bool { return b >= x }),
			mark(func(b int) bool { return b == x || b == 64 }), mark(func(b int) bool { return b == x || b == 255 }))
	}
	l = append(l, marked(20, 7)...)
	for _, m := range slices.Clone(l) {
		l = append(l, mark(func(b int) bool { return !m[b] }))
	}
	return l
}

// P4.1: sets of lists: none, single bytes, bytes again and out of their order, all of them.
func TestOf(t *testing.T) {
	for _, x := range []struct {
		l    []byte
		want api.Set
	}{
		{nil, api.Set{}}, {[]byte{}, api.Set{}},
		{[]byte{0}, api.Set{1, 0, 0, 0}}, {[]byte{63}, api.Set{1 << 63, 0, 0, 0}}, {[]byte{64}, api.Set{0, 1, 0, 0}},
		{[]byte{127, 128}, api.Set{0, 1 << 63, 1, 0}}, {[]byte{191, 192}, api.Set{0, 0, 1 << 63, 1}}, {[]byte{255}, api.Set{0, 0, 0, 1 << 63}},
		{[]byte("abc"), api.Set{0, 7 << 33, 0, 0}}, {[]byte("cab"), api.Set{0, 7 << 33, 0, 0}}, {[]byte("aaa"), api.Set{0, 1 << 33, 0, 0}},
		{[]byte{255, 0, 255, 0, 255}, api.Set{1, 0, 0, 1 << 63}},
	} {
		if got := Of(x.l); got != x.want {
			t.Errorf("Of(%v): %x", x.l, got)
		}
	}
	for _, m := range some() {
		l := m.list()
		if got := Of(l); got != m.set() {
			t.Errorf("Of(%v): %x", l, got)
		}
		slices.Reverse(l)
		if got := Of(append(l, l...)); got != m.set() {
			t.Errorf("Of(%v) twice: %x", l, got)
		}
	}
}

// P4.1: every range, those with to less than from too.
func TestRange(t *testing.T) {
	for from := range 256 {
		for to := range 256 {
			want := mark(func(b int) bool { return from <= b && b <= to }).set()
			if got := Range(byte(from), byte(to)); got != want {
				t.Fatalf("Range(%d, %d): %x", from, to, got)
			}
		}
	}
}

// P4.1: every byte of sets of every sort.
func TestHas(t *testing.T) {
	for _, m := range some() {
		for b, in := range m {
			if Has(m.set(), byte(b)) != in {
				t.Fatalf("Has(%x, %d): %t", m.set(), b, !in)
			}
		}
	}
}

// P4.1: union, intersection and complement, byte by byte.
func TestOrAndNot(t *testing.T) {
	for _, a := range some() {
		if got := Not(a.set()); got != mark(func(c int) bool { return !a[c] }).set() {
			t.Fatalf("Not(%x): %x", a.set(), got)
		}
		for _, b := range some() {
			if got := Or(a.set(), b.set()); got != mark(func(c int) bool { return a[c] || b[c] }).set() {
				t.Fatalf("Or(%x, %x): %x", a.set(), b.set(), got)
			}
			if got := And(a.set(), b.set()); got != mark(func(c int) bool { return a[c] && b[c] }).set() {
				t.Fatalf("And(%x, %x): %x", a.set(), b.set(), got)
			}
		}
	}
}

// P4.1: how many bytes, and which ones in ascending order.
func TestLenAndList(t *testing.T) {
	for _, m := range some() {
		s, want := m.set(), m.list()
		if got := Len(s); got != len(want) {
			t.Errorf("Len(%x): %d", s, got)
		}
		if got := List(s); !bytes.Equal(got, want) {
			t.Errorf("List(%x): %v", s, got)
		}
	}
	if l := List(Range(0, 255)); Len(Range(0, 255)) != 256 || len(l) != 256 || l[0] != 0 || l[255] != 255 {
		t.Errorf("all bytes: %d, %v", Len(Range(0, 255)), l)
	}
	if l := List(api.Set{}); Len(api.Set{}) != 0 || len(l) != 0 {
		t.Errorf("no bytes: %d, %v", Len(api.Set{}), l)
	}
}

// P4.2: the order at its edges: equal sets, the empty one, prefixes, more bytes against lesser ones.
func TestLess(t *testing.T) {
	for _, x := range []struct {
		a, b string
		want bool
	}{
		{"", "", false}, {"a", "a", false}, {"abc", "abc", false},
		{"a", "", true}, {"", "a", false}, {"\xff", "", true}, {"", "\xff", false},
		{"a", "b", true}, {"b", "a", false}, {"ab", "a", true}, {"a", "ab", false},
		{"a", "bcd", true}, {"bcd", "a", false}, {"ab", "ac", true}, {"ac", "ab", false}, {"ac", "abc", false}, {"abc", "ac", true},
		{"\x00", "\xff", true}, {"\xff", "\x00", false}, {"\x3f", "\x40", true}, {"\x40", "\x3f", false},
		{"\x40\xff", "\x40", true}, {"\x40", "\x40\xff", false}, {"a\x01", "a\x02\x03", true}, {"\x7f\x80", "\x7f\x81", true}, {"\xc0", "\xbf", false},
	} {
		if got := Less(Of([]byte(x.a)), Of([]byte(x.b))); got != x.want {
			t.Errorf("Less of %q and %q: %t", x.a, x.b, got)
		}
	}
}

// less is what P4.2 asks for of an order, said byte by byte.
func less(a, b marks) bool {
	for c := range a {
		if a[c] != b[c] {
			return a[c]
		}
	}
	return false
}

// P4.2: the order of every two sets of every sort.
func TestLessOfAll(t *testing.T) {
	for _, a := range some() {
		for _, b := range some() {
			if got := Less(a.set(), b.set()); got != less(a, b) {
				t.Fatalf("Less(%x, %x): %t", a.set(), b.set(), got)
			}
		}
	}
}

// sets writes the sets of these marks.
func sets(l []marks) (s []api.Set) {
	for _, m := range l {
		s = append(s, m.set())
	}
	return s
}

// parts is what P4.2 asks for of a partition: bytes in the same sets are together, in the order of their least bytes.
func parts(l []marks) (p []api.Set) {
	found := map[string]int{}
	var m []marks
	for b := range 256 {
		in := make([]byte, len(l))
		for i := range l {
			if l[i][b] {
				in[i] = 1
			}
		}
		at, ok := found[string(in)]
		if !ok {
			at = len(m)
			found[string(in)] = at
			m = append(m, marks{})
		}
		m[at][b] = true
	}
	return sets(m)
}

// P4.2: the chapter's example, no sets, sets that cut nothing, the same ones again, single bytes.
func TestParts(t *testing.T) {
	set := func(s string) api.Set { return Of([]byte(s)) }
	all, none := Range(0, 255), api.Set{}
	for what, x := range map[string]struct{ l, want []api.Set }{
		"the chapter's":             {[]api.Set{Range('a', 'c'), Range('c', 'd')}, []api.Set{Or(Range(0, 'a'-1), Range('e', 255)), set("ab"), set("c"), set("d")}},
		"the chapter's, turned":     {[]api.Set{Range('c', 'd'), Range('a', 'c')}, []api.Set{Or(Range(0, 'a'-1), Range('e', 255)), set("ab"), set("c"), set("d")}},
		"no sets":                   {nil, []api.Set{all}},
		"an empty list":             {[]api.Set{}, []api.Set{all}},
		"the empty set":             {[]api.Set{none}, []api.Set{all}},
		"the set of all":            {[]api.Set{all}, []api.Set{all}},
		"both, again and again":     {[]api.Set{none, all, none, all}, []api.Set{all}},
		"one byte":                  {[]api.Set{set("q")}, []api.Set{Not(set("q")), set("q")}},
		"the least byte":            {[]api.Set{set("\x00")}, []api.Set{set("\x00"), Range(1, 255)}},
		"the greatest byte":         {[]api.Set{set("\xff")}, []api.Set{Range(0, 254), set("\xff")}},
		"a set and its complement":  {[]api.Set{Range(64, 127), Not(Range(64, 127))}, []api.Set{Not(Range(64, 127)), Range(64, 127)}},
		"the same set again":        {[]api.Set{set("ab"), set("ab"), set("ba")}, []api.Set{Not(set("ab")), set("ab")}},
		"a set within another":      {[]api.Set{Range(0, 99), Range(10, 19)}, []api.Set{Or(Range(0, 9), Range(20, 99)), Range(10, 19), Range(100, 255)}},
		"sets apart from each one":  {[]api.Set{Range(200, 255), Range(0, 63)}, []api.Set{Range(0, 63), Range(64, 199), Range(200, 255)}},
		"a part of bytes far apart": {[]api.Set{set("\x01\xfe"), set("\x02")}, []api.Set{Not(set("\x01\x02\xfe")), set("\x01\xfe"), set("\x02")}},
	} {
		if got := Parts(x.l); !slices.Equal(got, x.want) {
			t.Errorf("%s: %x", what, got)
		}
	}
	var single []api.Set
	for b := range 256 {
		single = append(single, Range(byte(b), byte(b)))
	}
	backward := slices.Clone(single)
	slices.Reverse(backward)
	if got := Parts(backward); !slices.Equal(got, single) {
		t.Errorf("single bytes: %x", got)
	}
}

// P4.2: lists of few and many sets, up to 2,000 of them.
func TestPartsOfMany(t *testing.T) {
	for i, n := range []int{1, 2, 3, 4, 5, 6, 7, 8, 9, 10, 12, 15, 20, 50, 300, 2000} {
		l := marked(n, uint64(i))
		if got := Parts(sets(l)); !slices.Equal(got, parts(l)) {
			t.Errorf("%d sets: %x", n, got)
		}
	}
	// Narrow sets leave large parts, however many of them there are.
	for n := range 30 {
		l := make([]marks, 2000)
		for i := range l {
			at := (i*7 + n) % (n + 3)
			l[i] = mark(func(b int) bool { return at <= b && b < at+n })
		}
		if got := Parts(sets(l)); !slices.Equal(got, parts(l)) {
			t.Errorf("2,000 sets of %d bytes: %x", n, got)
		}
	}
	if got := Parts(sets(some())); !slices.Equal(got, parts(some())) {
		t.Errorf("sets of every sort: %x", got)
	}
}

// What follows: the parts are disjoint, none of them is empty, and together they have all bytes.
func TestPartsAreAPartition(t *testing.T) {
	for n := range 40 {
		var seen api.Set
		count := 0
		for _, p := range Parts(sets(marked(n, 99))) {
			if p == (api.Set{}) || And(seen, p) != (api.Set{}) {
				t.Errorf("%d sets: a part %x behind %x", n, p, seen)
			}
			seen = Or(seen, p)
			count += Len(p)
		}
		if seen != Range(0, 255) || count != 256 {
			t.Errorf("%d sets: %d bytes in parts: %x", n, count, seen)
		}
	}
}

// R1: long arguments end without a panic.
func TestLongLists(t *testing.T) {
	if got := Of(bytes.Repeat([]byte{3, 200, 3}, 1<<23)); got != (api.Set{1 << 3, 0, 0, 1 << 8}) {
		t.Errorf("the set of a long list: %x", got)
	}
	l := make([]api.Set, 1<<18)
	for i := range l {
		l[i] = api.Set{uint64(i % 2)}
	}
	if got := Parts(l); !slices.Equal(got, []api.Set{{1}, Range(1, 255)}) {
		t.Errorf("the parts of a long list: %x", got)
	}
}

// R3, R4: the same call answers the same, whatever was done to an earlier answer, and leaves its arguments, and what is behind them, as they were.
func TestAnswersAreIndependent(t *testing.T) {
	row := []byte("cabxyz")
	Of(row[:3])
	if string(row) != "cabxyz" {
		t.Errorf("Of changes its argument: %q", row)
	}
	l := []api.Set{Range('c', 'd'), Range('a', 'c'), Range(7, 9), Range(0, 3)}
	was := slices.Clone(l)
	first := Parts(l[:2])
	if !slices.Equal(l, was) {
		t.Errorf("Parts changes its argument: %x", l)
	}
	kept := slices.Clone(first)
	clear(l)
	if !slices.Equal(first, kept) {
		t.Errorf("the parts follow the list: %x", first)
	}
	clear(first[:cap(first)])
	if again := Parts(was[:2]); !slices.Equal(again, kept) {
		t.Errorf("the second parts: %x", again)
	}
	s := Range('a', 'e')
	listed := List(s)
	clear(listed[:cap(listed)])
	if again := List(s); string(again) != "abcde" || s != Range('a', 'e') {
		t.Errorf("the second list: %q of %x", again, s)
	}
}
