package subset

import (
	"bytes"
	"fmt"
	"math/rand"
	"slices"
	"strings"
	"testing"

	"scriptory/api"
	"scriptory/byteset"
	"scriptory/lang"
	"scriptory/parse"
	"scriptory/rx"
	"scriptory/thompson"
)

const (
	least    = -1 << 63
	greatest = 1<<63 - 1
)

// set is the set of the bytes of s.
func set(s string) api.Set { return byteset.Of([]byte(s)) }

// machine makes a machine of these states.
func machine(start, end int, l ...api.NState) api.Nfa {
	return api.Nfa{States: l, Start: start, End: end}
}

// by is a state that goes to another by a byte of s, and to these without.
func by(s string, to int, free ...int) api.NState { return api.NState{Set: set(s), To: to, Free: free} }

// free is a state that goes to these without a byte.
func free(l ...int) api.NState { return api.NState{To: -1, Free: l} }

// row is a machine of n states, each of which goes to the next one by a byte of its own, as far as there are so many.
func row(n int) api.Nfa {
	var l []api.NState
	for i := range n {
		l = append(l, api.NState{Set: byteset.Range(byte(i), byte(i)), To: (i + 1) % n})
	}
	return machine(0, n-1, l...)
}

// read is the expression of a text.
func read(t testing.TB, s string) api.Rx {
	t.Helper()
	r, at, e := parse.Parse(s)
	if e != api.OK {
		t.Fatalf("%q: error %d at %d", s, e, at)
	}
	return r
}

// built is the machine with many ways of r.
func built(t testing.TB, r api.Rx) api.Nfa {
	t.Helper()
	n, e := thompson.Build(r)
	if e != api.OK {
		t.Fatalf("error %d", e)
	}
	return n
}

// tell writes all of a machine with many ways, so that two texts are the same where the machines are.
func tell(n api.Nfa) string {
	var s strings.Builder
	fmt.Fprintf(&s, "%d to %d:", n.Start, n.End)
	for i, x := range n.States {
		fmt.Fprintf(&s, " %d{%q %d %v}", i, byteset.List(x.Set), x.To, x.Free)
	}
	return s.String()
}

// tellDfa writes all of a machine with one way.
func tellDfa(d api.Dfa) string { return fmt.Sprintf("%v %v %v", d.Next, d.Ends, d.Class) }

// run tells whether d takes w.
func run(d api.Dfa, w []byte) bool {
	at := 0
	for _, b := range w {
		at = d.Next[at][d.Class[b]]
	}
	return d.Ends[at]
}

// allWords is all words of at most n of these bytes.
func allWords(letters string, n int) []string {
	l := []string{""}
	for from := 0; n > 0; n-- {
		till := len(l)
		for _, w := range l[from:till] {
			for i := range len(letters) {
				l = append(l, w+letters[i:i+1])
			}
		}
		from = till
	}
	return l
}

// classed is Classes by its definition, of the parts.
func classed(n api.Nfa) (class [256]uint8, count int) {
	var l []api.Set
	for _, s := range n.States {
		l = append(l, s.Set)
	}
	parts := byteset.Parts(l)
	for b := range 256 {
		class[b] = uint8(slices.IndexFunc(parts, func(p api.Set) bool { return byteset.Has(p, byte(b)) }))
	}
	return class, len(parts)
}

// made is Make by its definition, without a budget, and the sets that its states are. The byte that it takes for a class is the greatest one of it.
func made(n api.Nfa) (d api.Dfa, sets [][]int) {
	class, count := classed(n)
	d.Class = class
	bytes := make([]byte, count)
	for b, c := range class {
		bytes[c] = byte(b)
	}
	sets = [][]int{thompson.Close(n, []int{n.Start})}
	for i := 0; i < len(sets); i++ {
		var row []int
		for _, b := range bytes {
			to := thompson.Step(n, sets[i], b)
			at := slices.IndexFunc(sets, func(l []int) bool { return slices.Equal(l, to) })
			if at < 0 {
				at = len(sets)
				sets = append(sets, to)
			}
			row = append(row, at)
		}
		d.Next = append(d.Next, row)
		d.Ends = append(d.Ends, slices.Contains(sets[i], n.End))
	}
	return d, sets
}

// whole is what Make answers where there is room enough.
func whole(t testing.TB, n api.Nfa) api.Dfa {
	t.Helper()
	d, e := Make(n, greatest)
	if e != api.OK {
		t.Fatalf("%.2000s: error %d", tell(n), e)
	}
	return d
}

// held holds Make against its definition, and returns what it made.
func held(t testing.TB, n api.Nfa) api.Dfa {
	t.Helper()
	got := whole(t, n)
	if want, _ := made(n); tellDfa(got) != tellDfa(want) {
		t.Fatalf("%.2000s: %.4000s, not %.4000s", tell(n), tellDfa(got), tellDfa(want))
	}
	return got
}

// tellRows writes the rows of Next, of one figure a class, and * behind a state that ends a word.
func tellRows(d api.Dfa) string {
	var l []string
	for i, r := range d.Next {
		s := strings.ReplaceAll(strings.Trim(fmt.Sprint(r), "[]"), " ", "")
		if i < len(d.Ends) && d.Ends[i] {
			s += "*"
		}
		l = append(l, s)
	}
	return strings.Join(l, " ")
}

// notValid is machines each of which has one fault.
func notValid() map[string]api.Nfa {
	turned := func(turn func(n *api.Nfa)) api.Nfa {
		n := machine(0, 1, by("a", 1), free(0))
		turn(&n)
		return n
	}
	return map[string]api.Nfa{
		"no states":        {},
		"start below":      turned(func(n *api.Nfa) { n.Start = -1 }),
		"start behind":     turned(func(n *api.Nfa) { n.Start = 2 }),
		"start far below":  turned(func(n *api.Nfa) { n.Start = least }),
		"start far behind": turned(func(n *api.Nfa) { n.Start = greatest }),
		"end below":        turned(func(n *api.Nfa) { n.End = -1 }),
		"end behind":       turned(func(n *api.Nfa) { n.End = 2 }),
		"end far behind":   turned(func(n *api.Nfa) { n.End = greatest }),
		"To behind":        turned(func(n *api.Nfa) { n.States[0].To = 2 }),
		"To far behind":    turned(func(n *api.Nfa) { n.States[1].To = greatest }),
		"Free below":       turned(func(n *api.Nfa) { n.States[0].Free = []int{-1} }),
		"Free behind":      turned(func(n *api.Nfa) { n.States[1].Free = []int{0, 2} }),
		"nine in Free":     turned(func(n *api.Nfa) { n.States[1].Free = make([]int, 9) }),
		"2,001 states":     row(2001),
		"very many states": machine(0, 0, append(make([]api.NState, 1<<20), by("z", 0))...),
	}
}

// P10.1: classes of sets made by hand: which class the bytes of each text have, and that all others have class rest.
func TestClasses(t *testing.T) {
	for i, x := range []struct {
		n     api.Nfa
		rest  int
		by    []string // the bytes of each class, but those of rest
		count int
	}{
		{machine(0, 0), 0, []string{""}, 1},
		{machine(0, 0, free()), 0, []string{""}, 1},
		{machine(0, 0, api.NState{Set: byteset.Range(0, 255)}), 0, []string{""}, 1},
		{machine(0, 1, by("a", 1), free()), 0, []string{"", "a"}, 2},
		{machine(0, 0, by("abc", 0), by("cd", 0)), 0, []string{"", "ab", "c", "d"}, 4},
		{machine(0, 0, by("cd", 0), by("abc", 0)), 0, []string{"", "ab", "c", "d"}, 4},
		{machine(0, 0, by("ac", 0), by("b", 0), by("ac", 0)), 0, []string{"", "ac", "b"}, 3},
		{machine(0, 0, by("\x00", 0)), 1, []string{"\x00", ""}, 2},
		{machine(0, 0, by("\x00b", 0), by("a\xff", 0)), 1, []string{"\x00b", "", "a\xff"}, 3},
		{machine(0, 0, by("\xff", 0)), 0, []string{"", "\xff"}, 2},
		{machine(0, 0, by("\x01\x3f\x40", 0), by("\x40\x80\xc0", 0)), 0, []string{"", "\x01\x3f", "\x40", "\x80\xc0"}, 4},
		{machine(0, 0, api.NState{Set: byteset.Not(set("b"))}, api.NState{Set: byteset.Not(set("a"))}), 0, []string{"", "a", "b"}, 3},
		// Each state's Set counts: one that nothing leads to, and one that leads nowhere.
		{machine(0, 0, free(), by("a", 0), by("b", -1), by("c", least)), 0, []string{"", "a", "b", "c"}, 4},
	} {
		class, count := Classes(x.n)
		if count != x.count {
			t.Errorf("%d: %d classes, not %d", i, count, x.count)
		}
		for b := range 256 {
			want := x.rest
			for c, l := range x.by {
				if strings.IndexByte(l, byte(b)) >= 0 {
					want = c
				}
			}
			if int(class[b]) != want {
				t.Errorf("%d: class of %d: %d, not %d", i, b, class[b], want)
			}
		}
	}
}

// P10.1: each byte a class of its own.
func TestAllClasses(t *testing.T) {
	var bits []api.NState
	for i := range 8 {
		var l []byte
		for b := range 256 {
			if b>>i&1 == 1 {
				l = append(l, byte(b))
			}
		}
		bits = append(bits, by(string(l), 0))
	}
	for _, n := range []api.Nfa{row(255), row(256), row(257), row(2000), row(2001), row(3000), machine(0, 0, bits...)} {
		class, count := Classes(n)
		if count != 256 {
			t.Errorf("%d states: %d classes", len(n.States), count)
		}
		for b, c := range class {
			if int(c) != b {
				t.Errorf("%d states: class of %d: %d", len(n.States), b, c)
			}
		}
	}
	if _, count := Classes(row(254)); count != 255 {
		t.Errorf("%d classes: 254 and 255 are alike", count)
	}
}

// P10.1: it says nothing of valid machines alone.
func TestClassesOfNotValid(t *testing.T) {
	for name, n := range notValid() {
		class, count := Classes(n)
		wantClass, want := classed(n)
		if class != wantClass || count != want {
			t.Errorf("%s: %d classes, not %d", name, count, want)
		}
	}
}

// P10.2: machines made by hand, held against what is written out by tellRows.
func TestMake(t *testing.T) {
	all := func(to int) api.NState { return api.NState{Set: byteset.Range(0, 255), To: to} }
	for _, x := range []struct {
		n    api.Nfa
		want string
	}{
		// No bytes: one class. The start, then the empty set.
		{machine(0, 0, free()), "1* 1"},
		{machine(0, 1, free(), free()), "1 1"},
		{machine(0, 1, free(1), free()), "1* 1"},
		{machine(0, 0, api.NState{}), "1* 1"},
		// All bytes: one class, and no empty set where it isn't reached.
		{machine(0, 0, all(0)), "0*"},
		{machine(0, 1, all(0), free()), "0"},
		{machine(0, 1, all(1), free()), "1 2* 2"},
		{machine(0, 1, all(1), all(0)), "1 0*"},
		// The byte leads nowhere, or none leads to it: yet it makes a class.
		{machine(0, 0, by("a", -1)), "11* 11"},
		{machine(0, 0, by("a", least)), "11* 11"},
		{machine(0, 0, free(), by("a", 0)), "11* 11"},
		// A single byte; it again and again; it from a later state to an earlier one.
		{machine(0, 1, by("a", 1), free()), "12 11 11*"},
		{machine(0, 0, by("a", 0)), "10* 11"},
		{machine(1, 0, free(), by("a", 0)), "12 11 11*"},
		// The class of all others is behind that of byte 0, so that the empty set is found later.
		{machine(0, 1, by("\x00", 1), free()), "12 22* 22"},
		// By class, not by state: b leads on from state 1, a from state 2.
		{machine(0, 3, free(1, 2), by("b", 3), by("a", 4), free(), free()), "123 111 111 111*"},
		{machine(0, 3, free(1, 2), by("b", 3), by("a", 0), free()), "102 111 111*"},
		// By class, not by byte: a and c are one class, and b leads elsewhere.
		{machine(0, 2, by("ac", 1, 3), free(), free(), by("b", 2)), "123 111 111 111*"},
		// Set by set: what the first one finds is ahead of what the others do.
		{machine(0, 4, by("a", 1, 2), by("a", 3), by("b", 4), by("b", 4), free()), "123 111 141 111* 113"},
		// Sets that differ are two, though the same words lead on from them, be it that a state does nothing.
		{machine(0, 1, by("a", 1, 2), free(), by("b", 4), free(), free(1)), "123 111 111* 111*"},
		{machine(0, 3, by("a", 1, 4), by("c", 3), by("c", 3, 5), free(), by("b", 2), free()), "1231 1111 1114 1114 1111*"},
		// Sets that are equal are one, whichever way they were found.
		{machine(0, 1, by("a", 1, 3), free(2), free(), by("b", 1, 4), free()), "122 111 111*"},
		{machine(0, 2, by("a", 1, 3), by("c", 2), free(), by("b", 1)), "1221 1111 1113 1111*"},
		{machine(0, 1, by("ab", 1), by("b", 0)), "122 111 110*"},
		// Two states by one byte, to two others.
		{machine(0, 2, by("a", 1, 3), by("b", 2), free(), by("a", 3)), "121 111 134 131 111*"},
		// A byte leads to what its To reaches without a byte, and End may be there.
		{machine(0, 3, by("a", 1), free(2), free(3), free()), "12 11 11*"},
		{machine(0, 3, by("a", 1), free(2), by("a", 3), free(0)), "12 11 13 12*"},
		{machine(2, 1, by("a", 2), free(), free(0, 1)), "10* 11"},
	} {
		d := held(t, x.n)
		if got := tellRows(d); got != x.want {
			t.Errorf("%s: %s, not %s", tell(x.n), got, x.want)
		}
	}
}

// The chapter's example.
func TestExample(t *testing.T) {
	d := whole(t, built(t, read(t, "a")))
	if len(d.Next) != 3 || len(d.Ends) != 3 {
		t.Fatalf("%s", tellRows(d))
	}
	// The start is state 0; all other bytes lead to the empty set, from where nothing leads on.
	end := d.Next[0][d.Class['a']]
	dead := d.Next[0][d.Class['b']]
	if end != 2 || dead != 1 || d.Ends[0] || d.Ends[dead] || !d.Ends[end] || d.Next[end][0] != dead || d.Next[end][1] != dead || d.Next[dead][0] != dead || d.Next[dead][1] != dead {
		t.Errorf("%s", tellRows(d))
	}
}

// P10.2: how many sets there are, worked out by the places in a text that may be the last one read: each set of them that some word leads to, and the start.
func TestCounts(t *testing.T) {
	for text, want := range map[string]int{
		"[]": 2, "": 2, "a": 3, "[ab]": 3, "[^a]": 3, ".": 3, "..": 4, ".*": 2, ".+": 3, ".*.": 2, "a*": 3, "a+": 4, "a?": 3,
		"ab": 4, "abc": 5, "a|b": 3, "ab|cb": 6, "ab|cd": 6, "aa|a": 4, "a*b": 4, "a*b*": 4, "(a*b*)*": 4, "(ab)*": 4, "(a|b)*abb": 6, ".*abb": 5, ".*.a": 3, ".*a.": 5, "(ab|ba)*": 6,
		"[ab]*a[ab]": 2 + 4, "[ab]*a[ab][ab]": 2 + 8, "[ab]*a" + strings.Repeat("[ab]", 7): 2 + 256, ".*a" + strings.Repeat(".", 7): 1 + 256, strings.Repeat("a", 199): 201, strings.Repeat("a?", 99): 101,
	} {
		if d := held(t, built(t, read(t, text))); len(d.Next) != want {
			t.Errorf("%q: %d states, not %d: %s", text, len(d.Next), want, tellRows(d))
		}
	}
}

// P10.2: what is not valid has no machine, whatever the budget.
func TestErrors(t *testing.T) {
	for name, n := range notValid() {
		for _, most := range []int{least, -1, 0, 1, 2, 300, greatest} {
			if d, e := Make(n, most); e != api.ErrForm || tellDfa(d) != tellDfa(api.Dfa{}) {
				t.Errorf("%s, at most %d: error %d, %.100s", name, most, e, tellDfa(d))
			}
		}
	}
}

// budgeted holds Make's budgets against how many states there are.
func budgeted(t testing.TB, n api.Nfa) {
	t.Helper()
	want := whole(t, n)
	states := len(want.Next)
	for _, most := range []int{states, states + 1, 2*states + 7, greatest - 1} {
		if d, e := Make(n, most); e != api.OK || tellDfa(d) != tellDfa(want) {
			t.Fatalf("%.2000s: of %d, at most %d: error %d", tell(n), states, most, e)
		}
	}
	for _, most := range []int{states - 1, states / 2, 1, 0, -1, -states, -states - 1, least} {
		if most >= states {
			continue
		}
		if d, e := Make(n, most); e != api.ErrBudget || tellDfa(d) != tellDfa(api.Dfa{}) {
			t.Fatalf("%.2000s: of %d, at most %d: error %d, %.100s", tell(n), states, most, e, tellDfa(d))
		}
	}
}

// P10.2: the budget, to the state.
func TestBudget(t *testing.T) {
	for _, n := range []api.Nfa{
		machine(0, 0, free()), machine(0, 0, api.NState{Set: byteset.Range(0, 255)}), machine(0, 1, by("a", 1), free()), machine(0, 1, by("\x00", 1), free()), row(3), row(300), row(2000),
		// The last state that is found is the empty set, and one that isn't.
		machine(0, 1, api.NState{Set: byteset.Range(0, 255), To: 1}, free()), machine(0, 1, by("a", 1), api.NState{Set: byteset.Range(0, 255)}),
	} {
		budgeted(t, n)
	}
	for _, text := range []string{"[]", "", "a", "ab|ac", "(a|b)*abb", "[ab]*a[ab][ab][ab]", "[ab]*a[ab][ab][ab][ab][ab][ab][ab]", "x+y+|.*z"} {
		budgeted(t, built(t, read(t, text)))
	}
}

// R1: far more sets than there is room for: the budget ends it soon.
func TestSoonOver(t *testing.T) {
	n := built(t, rx.Cat(rx.Star(rx.Bytes(set("ab"))), rx.Bytes(set("a")), rx.Cat(slices.Repeat([]api.Rx{rx.Bytes(set("ab"))}, 380)...)))
	for _, most := range []int{0, 1, 20, api.MaxSets, 5000} {
		if d, e := Make(n, most); e != api.ErrBudget || len(d.Next) > 0 {
			t.Errorf("at most %d: error %d", most, e)
		}
	}
}

// grown is a valid machine of n states.
func grown(numbers *rand.Rand, n int) api.Nfa {
	letters := []byte{0, 'a', 'b', 'c', 255}
	var l []api.NState
	for range n {
		s := api.NState{To: numbers.Intn(n+2) - 2}
		for _, x := range letters {
			if numbers.Intn(3) == 0 {
				s.Set = byteset.Or(s.Set, byteset.Range(x, x))
			}
		}
		if numbers.Intn(9) == 0 {
			s.Set = byteset.Not(s.Set)
		}
		for range numbers.Intn(6) - 3 {
			s.Free = append(s.Free, numbers.Intn(n))
		}
		l = append(l, s)
	}
	return machine(numbers.Intn(n), numbers.Intn(n), l...)
}

// P10.1, P10.2: machines of many sizes, held against the definitions, and by each byte.
func TestGrown(t *testing.T) {
	numbers := rand.New(rand.NewSource(10))
	most := 0
	for i := range 3000 {
		n := grown(numbers, 1+i%30)
		class, count := Classes(n)
		wantClass, want := classed(n)
		if class != wantClass || count != want {
			t.Fatalf("%s: %d classes %v, not %d %v", tell(n), count, class, want, wantClass)
		}
		d := held(t, n)
		most = max(most, len(d.Next))
		if i%10 == 0 {
			budgeted(t, n)
			byEach(t, n, d)
		}
	}
	if most < 50 {
		t.Errorf("at most %d states", most)
	}
}

// byEach holds each step of d by each byte against those of n.
func byEach(t testing.TB, n api.Nfa, d api.Dfa) {
	t.Helper()
	_, sets := made(n)
	for i, l := range sets {
		for b := range 256 {
			to := d.Next[i][d.Class[b]]
			if want := thompson.Step(n, l, byte(b)); !slices.Equal(sets[to], want) {
				t.Fatalf("%s: from %v by %d: %v, not %v", tell(n), l, b, sets[to], want)
			}
		}
	}
}

// pool grows plain expressions of at most most nodes by the constructors.
func pool(numbers *rand.Rand, size, most int) []api.Rx {
	l := []api.Rx{rx.None(), rx.Empty()}
	for _, s := range []string{"a", "b", "c", "ab", "bcd"} {
		l = append(l, rx.Bytes(set(s)))
	}
	for len(l) < size {
		x, y, z := l[numbers.Intn(len(l))], l[numbers.Intn(len(l))], l[numbers.Intn(len(l))]
		r := [...]api.Rx{rx.Cat(x, y), rx.Cat(x, y, z), rx.Alt(x, y), rx.Alt(x, y, z), rx.Alt(rx.Empty(), x), rx.Cat(x, rx.Star(y)), rx.Star(x)}[numbers.Intn(7)]
		if rx.Nodes(r) <= most && rx.May(r) == api.OK && r.Kind != api.RxNone {
			l = append(l, r)
		}
	}
	return l
}

// wordOf makes a word of r, or what is nearly one where there is none.
func wordOf(numbers *rand.Rand, r api.Rx) (w []byte) {
	switch r.Kind {
	case api.RxSet:
		l := byteset.List(r.Set)
		return append(w, l[numbers.Intn(len(l))])
	case api.RxCat:
		for _, x := range r.Args {
			w = append(w, wordOf(numbers, x)...)
		}
	case api.RxAlt:
		return wordOf(numbers, r.Args[numbers.Intn(len(r.Args))])
	case api.RxStar:
		for range numbers.Intn(4) {
			w = append(w, wordOf(numbers, r.Args[0])...)
		}
	}
	return w
}

// What follows: the same words as n has, and those of the expression that it is of.
func TestAgrees(t *testing.T) {
	numbers := rand.New(rand.NewSource(11))
	in, out := 0, 0
	for i, r := range pool(numbers, 1500, 60) {
		n := built(t, r)
		d, e := Make(n, api.MaxSets)
		if e != api.OK {
			continue
		}
		if run(d, nil) != lang.Null(r) {
			t.Fatalf("%s: the empty word: %t", tell(n), !lang.Null(r))
		}
		for range 8 {
			w := wordOf(numbers, r)
			if i%2 == 0 && len(w) > 0 {
				w[numbers.Intn(len(w))] = "abcdz"[numbers.Intn(5)]
			}
			if len(w) > api.MaxWord {
				continue
			}
			want := thompson.Run(n, w)
			if run(d, w) != want || lang.In(r, w) != want {
				t.Fatalf("%s: %q: %t", tell(n), w, !want)
			}
			if want {
				in++
			} else {
				out++
			}
		}
	}
	if in < 2000 || out < 1000 {
		t.Errorf("%d and %d of a sort", in, out)
	}
}

// What follows: the same for all short words.
func TestShortWords(t *testing.T) {
	words := allWords("abc", 5)
	for _, text := range []string{"", "[]", "a", "ab|c", "a*b*", "(a|b)*abb", "[^a]*", "a(b|c)*a?", "a+b+", ".*a.", "(ab|ba)*", "a|b|", "[a-c][b-d]?", "((a*)b)*", "(a|ab)(c|bcc)(b*)"} {
		n := built(t, read(t, text))
		d := held(t, n)
		byEach(t, n, d)
		for _, w := range words {
			if run(d, []byte(w)) != thompson.Run(n, []byte(w)) {
				t.Errorf("%q: %q", text, w)
			}
		}
	}
}

// P10.2: as many states as n may have, and End at each place.
func TestLarge(t *testing.T) {
	for _, states := range []int{63, 64, 65, 127, 128, 129, 1984, 1985, 1999, 2000} {
		n := row(states)
		for _, end := range []int{0, 1, 62, states / 2, states - 2, states - 1} {
			n.End = end
			d := whole(t, n)
			if len(d.Next) != states+1 {
				t.Fatalf("%d states: %d sets", states, len(d.Next))
			}
			at := 0
			for i := range states {
				if d.Ends[at] != (i == end) {
					t.Fatalf("%d states, end %d: state %d ends %t", states, end, i, d.Ends[at])
				}
				at = d.Next[at][d.Class[byte(i)]]
			}
			if at != 0 {
				t.Fatalf("%d states: back to %d", states, at)
			}
		}
	}
	// One state at a time, from the last one down; then all of them, without a byte.
	down := machine(1999, 0)
	for i := range 2000 {
		down.States = append(down.States, by("a", i-1))
	}
	if d := held(t, down); len(d.Next) != 2001 || !d.Ends[2000] || !run(d, bytes.Repeat([]byte("a"), 1999)) || run(d, bytes.Repeat([]byte("a"), 1998)) || run(d, bytes.Repeat([]byte("a"), 2000)) {
		t.Error("from the last one down")
	}
	for i := range down.States {
		down.States[i].Free = []int{(i + 1) % 2000, i, (i * 7) % 2000, (i * 11) % 2000, (i * 13) % 2000, 0, 1999, i / 2}
	}
	if d := held(t, down); tellRows(d) != "10* 11" {
		t.Errorf("all of them at once: %.200s", tellRows(d))
	}
}

// P10.2: two sets that differ in a single state, whichever it is: a leads to state 1, b to that state and 1.
func TestEachState(t *testing.T) {
	for _, at := range []int{2, 3, 31, 32, 63, 64, 65, 127, 128, 255, 256, 1023, 1024, 1983, 1984, 1998, 1999} {
		n := machine(0, 1, slices.Repeat([]api.NState{free()}, 2000)...)
		n.States[0], n.States[1997], n.States[at] = by("a", 1, 1997), by("b", at), free(1)
		if d := held(t, n); tellRows(d) != "123 111 111* 111*" {
			t.Errorf("%d: %s", at, tellRows(d))
		}
		n.End = at
		if d := held(t, n); tellRows(d) != "123 111 111 111*" {
			t.Errorf("%d at the end: %s", at, tellRows(d))
		}
		n.States[at] = by("c", 1, 1)
		if d := held(t, n); tellRows(d) != "1231 1111 1111 1112*" {
			t.Errorf("%d goes on: %s", at, tellRows(d))
		}
		// Now a leads to both, too.
		n.States[at], n.States[1] = free(1), free(at)
		if d := held(t, n); tellRows(d) != "122 111 111*" {
			t.Errorf("%d in both: %s", at, tellRows(d))
		}
	}
}

// R3: arguments are not changed, nor the room behind them.
func TestArguments(t *testing.T) {
	n := machine(0, 3, free([]int{2, 1, 9}[:2]...), by("a", 3, 0), by("b", 3), free())
	room := append(n.States, free(99))
	n.States = room[:4]
	before := tell(machine(0, 3, room...))
	Classes(n)
	Make(n, 300)
	Make(n, 1)
	if got := tell(machine(0, 3, room...)); got != before || n.States[0].Free[:3][2] != 9 {
		t.Errorf("changed: %s, not %s", got, before)
	}
}

// R3, R4: what is answered is new each time, and no list of it shares its room with another.
func TestAnswers(t *testing.T) {
	n := built(t, read(t, "(ab|ac|b*)*(|x)[a-d]+"))
	told := tell(n)
	d := whole(t, n)
	want := tellDfa(d)
	for i := range d.Next {
		l := d.Next[i]
		kept := slices.Clone(l)
		l = l[:cap(l)]
		for j := range l {
			l[j] = 99
		}
		copy(d.Next[i], kept)
		if tellDfa(d) != want {
			t.Fatalf("the row of state %d shares its room", i)
		}
	}
	for i := range d.Next {
		d.Next[i] = []int{99}
		d.Ends[i] = !d.Ends[i]
	}
	for range 20 {
		if again := whole(t, n); tellDfa(again) != want {
			t.Fatalf("%s, not %s", tellDfa(again), want)
		}
	}
	if tell(n) != told {
		t.Errorf("changed: %s, not %s", tell(n), told)
	}
	if made := whole(t, n); len(made.Next) != len(made.Ends) || len(made.Next[0]) != 1+int(slices.Max(made.Class[:])) {
		t.Error("rows, Ends and classes")
	}
}

// R3: an empty list is as good as none.
func TestEmptyLists(t *testing.T) {
	x := machine(0, 1, api.NState{Set: set("a"), To: 1}, api.NState{To: -1})
	y := machine(0, 1, api.NState{Set: set("a"), To: 1, Free: []int{}}, api.NState{To: -1, Free: make([]int, 0, 9)})
	if tellDfa(held(t, x)) != tellDfa(held(t, y)) {
		t.Error("an empty Free")
	}
	if _, e := Make(api.Nfa{States: []api.NState{}}, 9); e != api.ErrForm {
		t.Errorf("no states: error %d", e)
	}
	if class, count := Classes(api.Nfa{States: []api.NState{}}); count != 1 || class != [256]uint8{} {
		t.Errorf("no states: %d classes", count)
	}
}
