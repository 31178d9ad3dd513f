package thompson

import (
	"bytes"
	"fmt"
	"math/rand"
	"slices"
	"strings"
	"testing"

	"scriptory/api"
	"scriptory/byteset"
	"scriptory/lang"
	"scriptory/parse"
	"scriptory/rx"
)

// one is the expression of one byte of s.
func one(s string) api.Rx { return api.Rx{Kind: api.RxSet, Set: byteset.Of([]byte(s))} }

// node makes an expression as it is said, plain or not.
func node(kind int, args ...api.Rx) api.Rx { return api.Rx{Kind: kind, Args: args} }

// times is n of r.
func times(n int, r api.Rx) []api.Rx { return slices.Repeat([]api.Rx{r}, n) }

// What the tests are made of.
var (
	none  = node(api.RxNone)
	empty = node(api.RxEmpty)
	a     = one("a")
	b     = one("b")
	c     = one("c")
)

// read is the expression of a text.
func read(t testing.TB, s string) api.Rx {
	t.Helper()
	r, at, e := parse.Parse(s)
	if e != api.OK {
		t.Fatalf("%q: error %d at %d", s, e, at)
	}
	return r
}

// nested is r with levels around it.
func nested(levels int, r api.Rx, grow func(api.Rx) api.Rx) api.Rx {
	for range levels {
		r = grow(r)
	}
	return r
}

// tellRx writes all of an expression.
func tellRx(r api.Rx) string {
	var s strings.Builder
	fmt.Fprintf(&s, "%d{%q}(", r.Kind, byteset.List(r.Set))
	for _, x := range r.Args {
		s.WriteString(tellRx(x) + " ")
	}
	return s.String() + ")"
}

// tell writes all of a machine, so that two texts are the same where the machines are.
func tell(n api.Nfa) string {
	var s strings.Builder
	fmt.Fprintf(&s, "%d to %d:", n.Start, n.End)
	for i, x := range n.States {
		fmt.Fprintf(&s, " %d{%q %d %v}", i, byteset.List(x.Set), x.To, x.Free)
	}
	return s.String()
}

// allWords is all words of at most n of these bytes.
func allWords(letters string, n int) []string {
	l := []string{""}
	for from := 0; n > 0; n-- {
		till := len(l)
		for _, w := range l[from:till] {
			for i := range len(letters) {
				l = append(l, w+letters[i:i+1])
			}
		}
		from = till
	}
	return l
}

// set is the set of the bytes of s.
func set(s string) api.Set { return byteset.Of([]byte(s)) }

// machine makes a machine of these states.
func machine(start, end int, l ...api.NState) api.Nfa {
	return api.Nfa{States: l, Start: start, End: end}
}

// by is a state that goes to another by a byte of s, and to these without.
func by(s string, to int, free ...int) api.NState { return api.NState{Set: set(s), To: to, Free: free} }

// free is a state that goes to these without a byte.
func free(l ...int) api.NState { return api.NState{To: -1, Free: l} }

// row is a machine of n states, each of which goes to the next one by an a.
func row(n int) api.Nfa {
	var l []api.NState
	for i := range n {
		l = append(l, by("a", (i+1)%n))
	}
	return machine(0, n-1, l...)
}

// with is n with a state in the place of number i.
func with(n api.Nfa, i int, s api.NState) api.Nfa {
	n.States = slices.Clone(n.States)
	n.States[i] = s
	return n
}

const (
	least    = -1 << 63
	greatest = 1<<63 - 1
)

// notValid is machines each of which has one fault.
func notValid() map[string]api.Nfa {
	ok := machine(0, 1, by("a", 1), free(0))
	return map[string]api.Nfa{
		"no states":                  {},
		"no states, none to start":   {Start: -1, End: -1},
		"start below":                machine(-1, 1, ok.States...),
		"start behind":               machine(2, 1, ok.States...),
		"start far below":            machine(least, 1, ok.States...),
		"start far behind":           machine(greatest, 1, ok.States...),
		"end below":                  machine(0, -1, ok.States...),
		"end behind":                 machine(0, 2, ok.States...),
		"end far below":              machine(0, least, ok.States...),
		"end far behind":             machine(0, greatest, ok.States...),
		"To behind":                  with(ok, 0, by("a", 2)),
		"To far behind":              with(ok, 0, by("a", greatest)),
		"To behind, of the last":     with(ok, 1, by("a", 2)),
		"To behind, without a set":   with(ok, 1, by("", 2)),
		"Free below":                 with(ok, 0, by("a", 1, -1)),
		"Free behind":                with(ok, 0, by("a", 1, 2)),
		"Free far below":             with(ok, 1, free(0, least)),
		"Free far behind":            with(ok, 1, free(0, 1, greatest)),
		"nine in Free":               with(ok, 1, free(0, 0, 0, 0, 0, 0, 0, 0, 0)),
		"nine in Free, of the first": with(ok, 0, by("a", 1, 0, 1, 0, 1, 0, 1, 0, 1, 0)),
		"very many in Free":          with(ok, 1, free(make([]int, 1<<20)...)),
		"2,001 states":               row(2001),
		"very many states":           machine(0, 0, make([]api.NState, 1<<20)...),
	}
}

// P9.1: what is valid.
func TestMay(t *testing.T) {
	for name, n := range map[string]api.Nfa{
		"one state":             machine(0, 0, free()),
		"all zero":              machine(0, 0, api.NState{}),
		"two states":            machine(0, 1, by("a", 1), free()),
		"backwards":             machine(1, 0, free(), by("a", 0)),
		"To far below":          machine(0, 1, by("a", least), by("b", -2)),
		"To the last":           machine(0, 1, by("a", 1), by("", 1)),
		"eight in Free":         machine(0, 1, free(1, 0, 1, 0, 1, 0, 1, 0), by("b", 0, 1, 1, 1, 1, 1, 1, 1, 1)),
		"2,000 states":          row(2000),
		"2,000 of eight":        machine(1999, 0, slices.Repeat([]api.NState{free(0, 1, 2, 3, 1996, 1997, 1998, 1999)}, 2000)...),
		"in a ring":             machine(0, 0, free(1), free(2), free(0)),
		"Free with a spare -1":  machine(0, 0, free([]int{0, -1}[:1]...)),
		"states with spare bad": machine(0, 0, []api.NState{free(), free(-1)}[:1]...),
	} {
		if !May(n) {
			t.Errorf("%s is valid", name)
		}
	}
	for name, n := range notValid() {
		if May(n) {
			t.Errorf("%s is not valid", name)
		}
	}
}

// P9.1: of what is not valid there are no states, and no words.
func TestNotValid(t *testing.T) {
	for name, n := range notValid() {
		for _, l := range [][]int{nil, {}, {0}, {0, 1}, {1, 2}, {-1}, {2000}} {
			if got := Close(n, l); len(got) != 0 {
				t.Errorf("%s: Close of %v: %v", name, l, got)
			}
			if got := Step(n, l, 'a'); len(got) != 0 {
				t.Errorf("%s: Step of %v: %v", name, l, got)
			}
		}
		for _, w := range []string{"", "a", "aa", strings.Repeat("a", 2000)} {
			if Run(n, []byte(w)) {
				t.Errorf("%s: Run of %.5q", name, w)
			}
		}
	}
}

// P9.1: Close of machines made by hand.
func TestClose(t *testing.T) {
	ring := machine(0, 0, free(1), free(2), by("a", 3, 0), free(), free(4))
	split := machine(0, 5, free(5, 3), by("a", 0), free(1, 4, 1, 4), free(2), by("b", 5), free())
	for _, x := range []struct {
		n       api.Nfa
		l, want []int
	}{
		{ring, nil, nil}, {ring, []int{}, nil}, {ring, []int{0}, []int{0, 1, 2}}, {ring, []int{1}, []int{0, 1, 2}}, {ring, []int{2}, []int{0, 1, 2}}, {ring, []int{3}, []int{3}}, {ring, []int{4}, []int{4}}, {ring, []int{4, 3, 4, 3}, []int{3, 4}}, {ring, []int{4, 2}, []int{0, 1, 2, 4}},
		{ring, []int{-1, 5, least, greatest, -5}, nil}, {ring, []int{5, 3, -1, 2000}, []int{3}}, {ring, []int{6, 4}, []int{4}},
		{split, []int{0}, []int{0, 1, 2, 3, 4, 5}}, {split, []int{1}, []int{1}}, {split, []int{2}, []int{1, 2, 4}}, {split, []int{3}, []int{1, 2, 3, 4}}, {split, []int{5, 3}, []int{1, 2, 3, 4, 5}}, {split, []int{5, 4, 1, 4, 5}, []int{1, 4, 5}},
		{machine(0, 0, free()), []int{0, 0, 1}, []int{0}}, {machine(0, 0, api.NState{}), []int{0}, []int{0}},
	} {
		if got := Close(x.n, x.l); !slices.Equal(got, x.want) {
			t.Errorf("%s: Close of %v: %v, not %v", tell(x.n), x.l, got, x.want)
		}
	}
}

// P9.1: Step of machines made by hand. What the states of l reach without a byte has no part in it.
func TestStep(t *testing.T) {
	n := machine(0, 6, by("a", 1, 2), by("ab", 3), by("a", 4, 0), free(5, 0), by("b", 0), by("b", -1, 6), by("\x00\xff", 5, 3))
	for _, x := range []struct {
		l    []int
		b    byte
		want []int
	}{
		{nil, 'a', nil}, {[]int{}, 'a', nil}, {[]int{0}, 'a', []int{1}}, {[]int{0}, 'b', nil}, {[]int{1}, 'a', []int{0, 2, 3, 5, 6}}, {[]int{1}, 'b', []int{0, 2, 3, 5, 6}}, {[]int{1}, 'c', nil}, {[]int{2}, 'a', []int{4}},
		{[]int{3}, 'a', nil}, {[]int{3}, 0, nil}, {[]int{4}, 'b', []int{0, 2}}, {[]int{5}, 'b', nil}, {[]int{6}, 0, []int{0, 2, 3, 5, 6}}, {[]int{6}, 255, []int{0, 2, 3, 5, 6}}, {[]int{6}, 254, nil}, {[]int{6}, 'a', nil},
		{[]int{2, 0, 2, 0}, 'a', []int{1, 4}}, {[]int{0, 1, 2, 3, 4, 5, 6}, 'a', []int{0, 1, 2, 3, 4, 5, 6}}, {[]int{5, 4, 3}, 'b', []int{0, 2}}, {[]int{5, 3}, 'b', nil},
		{[]int{-1, 7, least, greatest}, 'a', nil}, {[]int{7, 0, -1}, 'a', []int{1}}, {[]int{2000, 4}, 'b', []int{0, 2}},
	} {
		if got := Step(n, x.l, x.b); !slices.Equal(got, x.want) {
			t.Errorf("Step of %v by %q: %v, not %v", x.l, x.b, got, x.want)
		}
	}
	// A state without bytes goes nowhere, though its To is a state; one with all of them goes by each.
	every := machine(0, 1, api.NState{To: 1}, api.NState{Set: byteset.Range(0, 255), To: 0}, by("a", least))
	for x := range 256 {
		if len(Step(every, []int{0}, byte(x))) > 0 || !slices.Equal(Step(every, []int{1}, byte(x)), []int{0}) || len(Step(every, []int{2}, byte(x))) > 0 {
			t.Errorf("a step by %d", x)
		}
	}
}

// P9.1: Run of machines made by hand.
func TestRun(t *testing.T) {
	for _, x := range []struct {
		n     api.Nfa
		words string // of at most three of a and b
	}{
		{machine(0, 0, free()), ","}, {machine(0, 1, free(), free()), ""}, {machine(0, 1, free(1), free()), ","}, {machine(1, 0, free(1), free()), ""},
		{machine(0, 1, by("a", 1), free()), "a,"}, {machine(0, 0, by("a", 0)), ",a,aa,aaa,"}, {machine(0, 1, by("a", -1), free()), ""}, {machine(0, 1, by("a", -1, 1), free()), ","}, {machine(0, 1, api.NState{To: 1}, free()), ""},
		{machine(0, 1, by("a", 1, 1), free(0)), ",a,aa,aaa,"}, {machine(2, 1, by("b", 1), free(2), by("a", 0)), "ab,"}, {machine(0, 3, free(1, 2), by("a", 3), by("b", 0), free()), "a,ba,bba,"},
		{machine(0, 2, free(1), free(2), by("b", 0)), ",b,bb,bbb,"}, {machine(0, 3, by("ab", 0, 1), by("b", 2), by("ab", 3), free()), "ba,bb,aba,abb,bba,bbb,"},
	} {
		for _, w := range allWords("ab", 3) {
			want := w == "" && strings.HasPrefix(x.words, ",") || w != "" && strings.Contains(","+x.words, ","+w+",")
			if Run(x.n, []byte(w)) != want {
				t.Errorf("%s: Run of %q: %t", tell(x.n), w, !want)
			}
		}
	}
	if Run(row(2000), bytes.Repeat([]byte("a"), 1998)) || !Run(row(2000), bytes.Repeat([]byte("a"), 1999)) || Run(row(2000), bytes.Repeat([]byte("a"), 2000)) || !Run(row(2000), bytes.Repeat([]byte("a"), 3999)) {
		t.Error("a row of 2,000")
	}
}

// closed is Close by its definition, of states: again and again, until nothing comes in.
func closed(n api.Nfa, l []int) []int {
	for {
		more := slices.Clone(l)
		for _, s := range l {
			more = append(more, n.States[s].Free...)
		}
		slices.Sort(more)
		more = slices.Compact(more)
		if slices.Equal(more, l) {
			return l
		}
		l = more
	}
}

// stepped is Step by its definition, of states.
func stepped(n api.Nfa, l []int, x byte) []int {
	var to []int
	for _, s := range l {
		if byteset.Has(n.States[s].Set, x) && n.States[s].To >= 0 {
			to = append(to, n.States[s].To)
		}
	}
	return closed(n, to)
}

// grown is a valid machine of n states.
func grown(numbers *rand.Rand, n int) api.Nfa {
	var l []api.NState
	for range n {
		s := api.NState{To: numbers.Intn(n+1) - 1}
		for _, x := range []byte("abc") {
			if numbers.Intn(3) == 0 {
				s.Set = byteset.Or(s.Set, byteset.Range(x, x))
			}
		}
		for range numbers.Intn(5) - 2 {
			s.Free = append(s.Free, numbers.Intn(n))
		}
		l = append(l, s)
	}
	return machine(numbers.Intn(n), numbers.Intn(n), l...)
}

// P9.1: machines of many sizes, held against the definitions.
func TestGrown(t *testing.T) {
	numbers := rand.New(rand.NewSource(9))
	in, out := 0, 0
	for i := range 4000 {
		n := grown(numbers, 1+i%12)
		if !May(n) {
			t.Fatalf("%s is valid", tell(n))
		}
		var l, states []int
		for range numbers.Intn(6) {
			s := numbers.Intn(len(n.States)+4) - 2
			l = append(l, s)
			if s >= 0 && s < len(n.States) {
				states = append(states, s)
			}
		}
		if got, want := Close(n, l), closed(n, states); !slices.Equal(got, want) {
			t.Fatalf("%s: Close of %v: %v, not %v", tell(n), l, got, want)
		}
		for _, x := range []byte("abcd") {
			if got, want := Step(n, l, x), stepped(n, states, x); !slices.Equal(got, want) {
				t.Fatalf("%s: Step of %v by %q: %v, not %v", tell(n), l, x, got, want)
			}
		}
		w := make([]byte, numbers.Intn(5))
		at := closed(n, []int{n.Start})
		for j := range w {
			w[j] = "abc"[numbers.Intn(3)]
			at = stepped(n, at, w[j])
		}
		want := slices.Contains(at, n.End)
		if Run(n, w) != want {
			t.Fatalf("%s: Run of %q: %t", tell(n), w, !want)
		}
		if want {
			in++
		} else {
			out++
		}
	}
	if in < 500 || out < 500 {
		t.Errorf("%d and %d of a sort", in, out)
	}
}

// setsOf is the sets of the RxSets of r, in the order in which they stand there.
func setsOf(r api.Rx) (l []api.Set) {
	if r.Kind == api.RxSet {
		l = append(l, r.Set)
	}
	for _, x := range r.Args {
		l = append(l, setsOf(x)...)
	}
	return l
}

// leads is how many ways of n lead to each state, by a byte or without.
func leads(n api.Nfa) []int {
	l := make([]int, len(n.States))
	for _, s := range n.States {
		if s.To >= 0 {
			l[s.To]++
		}
		for _, to := range s.Free {
			l[to]++
		}
	}
	return l
}

// sorted is l in the order of byteset.Less.
func sorted(l []api.Set) []api.Set {
	slices.SortFunc(l, func(x, y api.Set) int { return rx.Compare(rx.Bytes(x), rx.Bytes(y)) })
	return l
}

// built is the machine of r, held against P9.2 in all but its words.
func built(t testing.TB, r api.Rx) api.Nfa {
	t.Helper()
	n, e := Build(r)
	if e != api.OK || !May(n) {
		t.Fatalf("%.2000s: error %d, %.2000s", tellRx(r), e, tell(n))
	}
	nodes := rx.Nodes(r)
	args := nodes - 1 // each node but the first one is an Arg
	if len(n.States) > 2*nodes+args+2 {
		t.Fatalf("%.2000s: %d states for %d nodes", tellRx(r), len(n.States), nodes)
	}
	var sets []api.Set
	into := leads(n)
	for i, s := range n.States {
		switch {
		case s.Set == api.Set{}:
			if s.To >= 0 {
				t.Fatalf("%.2000s: state %d goes to %d by no byte: %.2000s", tellRx(r), i, s.To, tell(n))
			}
		case s.To < 0 || into[s.To] != 1 || s.To == n.Start:
			t.Fatalf("%.2000s: state %d goes to no state of its own: %.2000s", tellRx(r), i, tell(n))
		default:
			sets = append(sets, s.Set)
		}
	}
	if !slices.Equal(sorted(sets), sorted(setsOf(r))) {
		t.Fatalf("%.2000s: the sets are not those of %.2000s", tellRx(r), tell(n))
	}
	return n
}

// The chapter's example.
func TestExample(t *testing.T) {
	n := built(t, a)
	if len(n.States) != 2 || !Run(n, []byte("a")) || Run(n, nil) || Run(n, []byte("aa")) || Run(n, []byte("b")) {
		t.Errorf("of a single byte: %s", tell(n))
	}
}

// P9.2: each kind, by all short words.
func TestBuild(t *testing.T) {
	for text, words := range map[string]string{
		"[]": "", "": ",", "a": "a,", "[ab]": "a,b,", ".": "a,b,x,", "[^a]": "b,x,", "[^abx]": "",
		"ab": "ab,", "aab": "aab,", "abx": "abx,", "aaa": "aaa,", "[ab]x": "ax,bx,", "a(b|xx)": "ab,axx,", "a?b": "b,ab,", "a?b?x?": ",a,b,x,ab,ax,bx,abx,", "a*b": "b,ab,aab,", "a*b*": ",a,b,aa,ab,bb,aaa,aab,abb,bbb,",
		"a|bb": "a,bb,", "|a": ",a,", "|ab": ",ab,", "ab|ba|xx": "ab,ba,xx,", "ab|a*": ",a,ab,aa,aaa,", "a|ab|abx|b*": ",a,ab,abx,b,bb,bbb,", "aa|aa": "aa,",
		"a*": ",a,aa,aaa,", "(ab)*": ",ab,", "(a|bb)*": ",a,bb,aa,abb,bba,aaa,", "(a*b)*": ",b,ab,bb,aab,abb,bab,bbb,", "(a*b*)*x": "x,ax,bx,aax,abx,bax,bbx,", "(a*|bx)*": ",a,aa,aaa,bx,abx,bxa,", "(aa*)*": ",a,aa,aaa,", "x+": "x,xx,xxx,", "(a*x*)*": ",a,x,aa,ax,xa,xx,aaa,aax,axa,axx,xaa,xax,xxa,xxx,",
	} {
		n := built(t, read(t, text))
		for _, w := range allWords("abx", 3) {
			want := w == "" && strings.HasPrefix(words, ",") || w != "" && strings.Contains(","+words, ","+w+",")
			if Run(n, []byte(w)) != want {
				t.Errorf("%q: Run of %q: %t", text, w, !want)
			}
		}
	}
}

// P9.2: a set goes by each byte of it, and by no other.
func TestBytes(t *testing.T) {
	for _, s := range []api.Set{set("\x00"), set("\xff"), set("\x00\x3f\x40\x7f\x80\xbf\xc0\xff"), byteset.Range('a', 'z'), byteset.Range(0, 255), byteset.Not(set("\x80"))} {
		n := built(t, rx.Bytes(s))
		for x := range 256 {
			if Run(n, []byte{byte(x)}) != byteset.Has(s, byte(x)) {
				t.Errorf("%q: %d", byteset.List(s), x)
			}
		}
	}
}

// P9.2: what is no plain expression, or too large a one, has no machine. Which error it has goes by the order.
func TestErrors(t *testing.T) {
	long := rx.Cat(times(400, a)...)
	deep := nested(15, a, func(r api.Rx) api.Rx { return rx.Star(rx.Cat(r, b)) })
	loop := make([]api.Rx, 2)
	loop[0], loop[1] = node(api.RxCat, loop...), node(api.RxAlt, loop...)
	for i, x := range []struct {
		r    api.Rx
		want api.Errno
	}{
		{long, api.ErrLong}, {rx.Star(long), api.ErrLong}, {node(api.RxCat, times(400, none)...), api.ErrLong}, {node(0, times(1<<20, a)...), api.ErrLong}, {nested(400, a, func(r api.Rx) api.Rx { return node(api.RxStar, r) }), api.ErrLong}, {node(api.RxAlt, long, deep), api.ErrLong}, {node(api.RxCat, loop...), api.ErrLong},
		{deep, api.ErrDeep}, {nested(399, a, func(r api.Rx) api.Rx { return node(api.RxStar, r) }), api.ErrDeep}, {nested(30, a, func(r api.Rx) api.Rx { return node(9, r) }), api.ErrDeep},
		{api.Rx{}, api.ErrForm}, {node(7), api.ErrForm}, {node(-1, a), api.ErrForm}, {node(api.RxSet), api.ErrForm}, {node(api.RxStar), api.ErrForm}, {node(api.RxStar, a, b), api.ErrForm}, {node(api.RxStar, rx.Star(a)), api.ErrForm}, {node(api.RxStar, empty), api.ErrForm}, {node(api.RxCat), api.ErrForm}, {node(api.RxCat, a), api.ErrForm}, {node(api.RxCat, a, none), api.ErrForm}, {node(api.RxCat, a, empty), api.ErrForm}, {node(api.RxAlt, a), api.ErrForm}, {node(api.RxAlt, a, b), api.ErrForm}, {node(api.RxAlt, rx.Star(a), rx.Cat(a, b)), api.ErrForm}, {node(api.RxEmpty, a), api.ErrForm}, {api.Rx{Kind: api.RxNone, Set: a.Set}, api.ErrForm}, {rx.Cat(a, rx.Star(rx.Cat(b, node(api.RxSet)))), api.ErrForm}, {nested(29, a, func(r api.Rx) api.Rx { return node(9, r) }), api.ErrForm}, {node(api.RxCat, times(399, none)...), api.ErrForm},
	} {
		n, e := Build(x.r)
		if e != x.want || len(n.States) != 0 || n.Start != 0 || n.End != 0 {
			t.Errorf("%d: error %d, not %d, and %.200s", i, e, x.want, tell(n))
		}
	}
}

// pool grows plain expressions of at most most nodes by the constructors, and the one sort of plain ones that they leave out.
func pool(numbers *rand.Rand, size, most int) []api.Rx {
	l := []api.Rx{none, empty, a, b, c, one("ab"), one("bcd"), node(api.RxStar, rx.Alt(empty, a)), node(api.RxStar, rx.Alt(empty, rx.Star(a), rx.Cat(a, b)))}
	for len(l) < size {
		x, y, z := l[numbers.Intn(len(l))], l[numbers.Intn(len(l))], l[numbers.Intn(len(l))]
		r := [...]api.Rx{rx.Cat(x, y), rx.Cat(x, y, z), rx.Alt(x, y), rx.Alt(x, y, z), rx.Alt(empty, x), rx.Cat(x, rx.Star(y)), rx.Star(x)}[numbers.Intn(7)]
		if rx.Nodes(r) <= most && rx.Depth(r) <= api.MaxDepth && r.Kind != api.RxNone {
			l = append(l, r)
		}
	}
	return l
}

// word makes a word of r, or what is nearly one where there is none.
func word(numbers *rand.Rand, r api.Rx) (w []byte) {
	switch r.Kind {
	case api.RxSet:
		l := byteset.List(r.Set)
		return append(w, l[numbers.Intn(len(l))])
	case api.RxCat:
		for _, x := range r.Args {
			w = append(w, word(numbers, x)...)
		}
	case api.RxAlt:
		return word(numbers, r.Args[numbers.Intn(len(r.Args))])
	case api.RxStar:
		for range numbers.Intn(4) {
			w = append(w, word(numbers, r.Args[0])...)
		}
	}
	return w
}

// spoilt is w with a byte changed, put in or taken out.
func spoilt(numbers *rand.Rand, w []byte) []byte {
	at := numbers.Intn(len(w) + 1)
	switch letter := "abcdz"[numbers.Intn(5)]; {
	case at == len(w) || numbers.Intn(3) == 0:
		return slices.Insert(slices.Clone(w), at, letter)
	case numbers.Intn(2) == 0:
		return slices.Delete(slices.Clone(w), at, at+1)
	default:
		return slices.Replace(slices.Clone(w), at, at+1, letter)
	}
}

// What follows: Run agrees with lang.In, for expressions of many sizes.
func TestAgrees(t *testing.T) {
	numbers := rand.New(rand.NewSource(10))
	in, out := 0, 0
	for i, r := range pool(numbers, 3000, 200) {
		n := built(t, r)
		if Run(n, nil) != lang.Null(r) {
			t.Fatalf("%s: Run of the empty word: %t", tellRx(r), !lang.Null(r))
		}
		for range 8 {
			w := word(numbers, r)
			if i%2 == 0 {
				w = spoilt(numbers, w)
			}
			if len(w) > api.MaxWord {
				continue
			}
			want := lang.In(r, w)
			if Run(n, w) != want {
				t.Fatalf("%s: Run of %q: %t", tellRx(r), w, !want)
			}
			if want {
				in++
			} else {
				out++
			}
		}
	}
	if in < 3000 || out < 3000 {
		t.Errorf("%d and %d of a sort", in, out)
	}
}

// What follows: the same for all small expressions and all short words.
func TestSmall(t *testing.T) {
	asked := append(allWords("abc", 3), "aaaa", "abab", "baba", "aabb", "acac", "bbab")
	low := []api.Rx{none, empty, a, one("ab"), rx.Cat(a, b), rx.Star(a), rx.Alt(empty, b), rx.Star(rx.Cat(b, a)), rx.Alt(a, rx.Cat(a, a)), rx.Cat(rx.Star(a), rx.Star(b)), node(api.RxStar, rx.Alt(empty, rx.Cat(a, c)))}
	for _, x := range low {
		for _, y := range low {
			for _, z := range low {
				for _, r := range []api.Rx{rx.Cat(x, y, z), rx.Alt(x, y, z), rx.Star(rx.Cat(x, y, z)), rx.Star(rx.Alt(x, rx.Cat(y, z)))} {
					n := built(t, r)
					for _, w := range asked {
						if Run(n, []byte(w)) != lang.In(r, []byte(w)) {
							t.Fatalf("%s: Run of %q", tellRx(r), w)
						}
					}
				}
			}
		}
	}
}

// P9.2: as large as may be: wide, long and deep.
func TestLarge(t *testing.T) {
	var wide []api.Rx
	for n := range 199 {
		wide = append(wide, rx.Star(api.Rx{Kind: api.RxSet, Set: byteset.Range(byte(n), byte(n))}))
	}
	long := strings.Repeat("a", 399)
	for i, x := range []struct {
		r       api.Rx
		nodes   int
		in, out []string
	}{
		{rx.Cat(times(399, a)...), 400, []string{long}, []string{"", long[1:], long + "a", long[1:] + "b"}},
		{rx.Alt(wide...), 399, []string{"", "\x00\x00", "aa", long, "\xc6"}, []string{"ab", "\xc7", "\x00a", long + "b"}},
		{rx.Star(rx.Alt(wide...)), 400, []string{"", "abc", "\x00\xc6\xc5a", long}, []string{"\xc7", "a\xc7a"}},
		{rx.Cat(wide...), 399, []string{"", "abc", "aabb", "\x00\xc6", long}, []string{"ba", "aba", "\xc7"}},
		{rx.Cat(times(133, rx.Alt(empty, a))...), 400, []string{"", "a", long[:133]}, []string{long[:134], "b"}},
		{rx.Star(rx.Cat(append(times(132, rx.Alt(empty, a)), b)...)), 399, []string{"", "b", "ab", long[:132] + "b" + long[:132] + "b"}, []string{"a", long[:133] + "b", "ba"}},
		{nested(14, rx.Star(a), func(r api.Rx) api.Rx { return rx.Star(rx.Cat(r, b)) }), 44, []string{"", strings.Repeat("b", 14), "a" + strings.Repeat("b", 14)}, []string{"a", "ba"}},
		{nested(29, a, func(r api.Rx) api.Rx {
			if r.Kind == api.RxCat {
				return rx.Alt(r, c)
			}
			return rx.Cat(r, b)
		}), 59, []string{"cb", "a" + strings.Repeat("b", 15)}, []string{"", "a", "ab", "c", strings.Repeat("b", 15)}},
	} {
		if rx.Nodes(x.r) != x.nodes || rx.May(x.r) != api.OK {
			t.Errorf("%d: %d nodes, %d deep, error %d", i, rx.Nodes(x.r), rx.Depth(x.r), rx.May(x.r))
			continue
		}
		n := built(t, x.r)
		for _, w := range x.in {
			if !Run(n, []byte(w)) {
				t.Errorf("%d: %.9q of %d bytes is in", i, w, len(w))
			}
		}
		for _, w := range x.out {
			if Run(n, []byte(w)) {
				t.Errorf("%d: %.9q of %d bytes is not in", i, w, len(w))
			}
		}
	}
}

// R1: lists and words of any length.
func TestEnds(t *testing.T) {
	n := machine(0, 1999, slices.Repeat([]api.NState{by("ab", 7, 0, 1, 2, 3, 1996, 1997, 1998, 1999)}, 2000)...)
	l := make([]int, 1<<21)
	for i := range l {
		l[i] = i%4001 - 1000
	}
	if got := Close(n, l); len(got) != 2000 {
		t.Errorf("%d states", len(got))
	}
	if got, want := Step(n, l, 'b'), []int{0, 1, 2, 3, 7, 1996, 1997, 1998, 1999}; !slices.Equal(got, want) {
		t.Errorf("%v, not %v", got, want)
	}
	w := bytes.Repeat([]byte("ab"), 1<<19)
	if !Run(n, w) || Run(row(2000), w) || Run(n, append(w, 'c')) {
		t.Error("a long word")
	}
	chain := row(2000)
	for i := range chain.States[:1999] {
		chain.States[i].Free = []int{i + 1}
	}
	if len(Close(chain, []int{0})) != 2000 || len(Close(chain, []int{1000})) != 1000 || !Run(chain, nil) {
		t.Error("a chain of 2,000")
	}
	for kind := range 8 {
		loop := make([]api.Rx, 2)
		loop[0], loop[1] = node(kind, loop...), node(kind, loop...)
		Build(node(kind, loop...))
		Build(nested(1<<16-1, a, func(r api.Rx) api.Rx { return node(kind, r) }))
	}
}

// R3: arguments are not changed, nor the room behind them.
func TestArguments(t *testing.T) {
	n := machine(0, 3, free([]int{2, 1, 9}[:2]...), by("a", 3, 0), by("b", 3), free())
	room := append(n.States, free(99))
	n.States = room[:4]
	l := []int{3, 0, 0, -1, 77, 5, 4}
	w := []byte("abab")
	before := tell(machine(0, 3, room...))
	Close(n, l[:5])
	Step(n, l[:5], 'a')
	Run(n, w[:2])
	if got := tell(machine(0, 3, room...)); got != before || n.States[0].Free[:3][2] != 9 {
		t.Errorf("changed: %s, not %s", got, before)
	}
	if !slices.Equal(l, []int{3, 0, 0, -1, 77, 5, 4}) || string(w) != "abab" {
		t.Errorf("changed: %v, %q", l, w)
	}
	r := read(t, "(a|bc)*d?x")
	told := tellRx(r)
	Build(r)
	if tellRx(r) != told {
		t.Errorf("changed: %s, not %s", tellRx(r), told)
	}
}

// R3, R4: what is answered is new each time, and no list of it shares its room with another.
func TestAnswers(t *testing.T) {
	r := read(t, "(ab|ac|b*)*(|x)[a-d]+")
	n, _ := Build(r)
	want := tell(n)
	for i := range n.States {
		l := n.States[i].Free
		kept := slices.Clone(l)
		l = l[:cap(l)]
		for j := range l {
			l[j] = 99
		}
		copy(n.States[i].Free, kept)
		if tell(n) != want {
			t.Fatalf("the list of state %d shares its room", i)
		}
	}
	for i := range n.States {
		n.States[i] = by("z", 9, 9)
	}
	n, _ = Build(r)
	if tell(n) != want {
		t.Fatalf("%s, not %s", tell(n), want)
	}
	from := []int{n.Start}
	x, y := Close(n, from), Close(n, from)
	at, to := Step(n, y, 'b'), Step(n, y, 'b')
	for _, l := range [][]int{x, at} {
		l = l[:cap(l)]
		for i := range l {
			l[i] = 99
		}
	}
	if !slices.Equal(y, closed(n, from)) || !slices.Equal(to, stepped(n, y, 'b')) || from[0] != n.Start || tell(n) != want {
		t.Error("an answer shares its room")
	}
}

// R3: an empty list, or word, is as good as none.
func TestEmptyLists(t *testing.T) {
	x := machine(0, 1, api.NState{Set: set("a"), To: 1}, api.NState{To: -1})
	y := machine(0, 1, api.NState{Set: set("a"), To: 1, Free: []int{}}, api.NState{To: -1, Free: make([]int, 0, 9)})
	for _, n := range []api.Nfa{x, y} {
		if !May(n) || Run(n, nil) || Run(n, []byte{}) || !Run(n, []byte("a")) || len(Close(n, nil))+len(Close(n, []int{})) > 0 || len(Step(n, nil, 'a'))+len(Step(n, []int{}, 'a')) > 0 {
			t.Error(tell(n))
		}
	}
	if May(api.Nfa{States: []api.NState{}}) {
		t.Error("no states")
	}
	e := empty
	e.Args = make([]api.Rx, 0, 3)
	if n := built(t, e); !Run(n, nil) || Run(n, []byte("a")) {
		t.Error("the empty word")
	}
}
