package lang

import (
	"bytes"
	"fmt"
	"math/rand"
	"regexp"
	"slices"
	"strings"
	"testing"

	"scriptory/api"
	"scriptory/byteset"
	"scriptory/parse"
	"scriptory/rx"
)

// node makes an expression as it is said, plain or not.
func node(kind int, args ...api.Rx) api.Rx { return api.Rx{Kind: kind, Args: args} }

// one is the expression of one byte of s.
func one(s string) api.Rx { return api.Rx{Kind: api.RxSet, Set: byteset.Of([]byte(s))} }

func cat(l ...api.Rx) api.Rx { return node(api.RxCat, l...) }
func alt(l ...api.Rx) api.Rx { return node(api.RxAlt, l...) }
func star(r api.Rx) api.Rx   { return node(api.RxStar, r) }

// times is n of r.
func times(n int, r api.Rx) []api.Rx { return slices.Repeat([]api.Rx{r}, n) }

// marked is r with a set that it ought not to have.
func marked(r api.Rx) api.Rx {
	r.Set = byteset.Of([]byte("ab"))
	return r
}

// What the tests are made of.
var (
	none  = node(api.RxNone)
	empty = node(api.RxEmpty)
	a     = one("a")
	b     = one("b")
	c     = one("c")
	every = api.Rx{Kind: api.RxSet, Set: byteset.Range(0, 255)}
)

// read is the expression of a text.
func read(t testing.TB, s string) api.Rx {
	t.Helper()
	r, at, e := parse.Parse(s)
	if e != api.OK {
		t.Fatalf("%q: error %d at %d", s, e, at)
	}
	return r
}

// tell writes all of an expression, so that two texts are the same where the expressions are.
func tell(r api.Rx) string {
	var s strings.Builder
	fmt.Fprintf(&s, "%d", r.Kind)
	if r.Set != (api.Set{}) {
		fmt.Fprintf(&s, "{%q}", byteset.List(r.Set))
	}
	if len(r.Args) > 0 {
		s.WriteString("(")
		for _, x := range r.Args {
			s.WriteString(tell(x) + " ")
		}
		s.WriteString(")")
	}
	return s.String()
}

// same tells whether two expressions are so in all their fields.
func same(x, y api.Rx) bool {
	return x.Kind == y.Kind && x.Set == y.Set && slices.EqualFunc(x.Args, y.Args, same)
}

// plain tells whether r is so, of any size: May looks at the form last, so each part is asked alone, with parts of small ones.
func plain(r api.Rx) bool {
	if rx.May(r) == api.OK || rx.May(r) == api.ErrForm {
		return rx.May(r) == api.OK
	}
	if r.Kind == api.RxAlt {
		for i, x := range r.Args {
			if x.Kind == api.RxAlt || x.Kind == api.RxNone || i > 0 && (rx.Compare(r.Args[i-1], x) >= 0 || x.Kind == api.RxSet && r.Args[i-1].Kind == api.RxSet) {
				return false
			}
		}
		return r.Set == (api.Set{}) && len(r.Args) > 1 && !slices.ContainsFunc(r.Args, func(x api.Rx) bool { return !plain(x) })
	}
	// In the other kinds all that counts of a part is its kind.
	low := api.Rx{Kind: r.Kind, Set: r.Set}
	for _, x := range r.Args {
		low.Args = append(low.Args, map[int]api.Rx{1: none, 2: empty, 3: a, 4: cat(a, b), 5: alt(empty, a), 6: star(a)}[x.Kind])
		if !plain(x) {
			return false
		}
	}
	if len(low.Args) > 10 {
		slices.SortFunc(low.Args, rx.Compare)
		low.Args = slices.CompactFunc(low.Args, rx.Equal)
		low.Args = append(low.Args, low.Args...)
	}
	return rx.May(low) == api.OK
}

// joined is all of x with all of y behind it, up to n bytes.
func joined(x, y map[string]bool, n int) map[string]bool {
	l := map[string]bool{}
	for v := range x {
		for w := range y {
			if len(v)+len(w) <= n {
				l[v+w] = true
			}
		}
	}
	return l
}

// wordsOf is the chapter's definition: the words of r of at most n bytes.
func wordsOf(r api.Rx, n int) map[string]bool {
	l := map[string]bool{}
	switch r.Kind {
	case api.RxEmpty:
		l[""] = true
	case api.RxSet:
		for _, x := range byteset.List(r.Set) {
			if n > 0 {
				l[string([]byte{x})] = true
			}
		}
	case api.RxCat:
		l[""] = true
		for _, x := range r.Args {
			l = joined(l, wordsOf(x, n), n)
		}
	case api.RxAlt:
		for _, x := range r.Args {
			for w := range wordsOf(x, n) {
				l[w] = true
			}
		}
	case api.RxStar:
		l[""] = true
		if len(r.Args) != 1 {
			break
		}
		once := wordsOf(r.Args[0], n)
		for range n {
			for w := range joined(l, once, n) {
				l[w] = true
			}
		}
	}
	return l
}

// allWords is all words of at most n of these bytes.
func allWords(letters string, n int) []string {
	l := []string{""}
	for from := 0; n > 0; n-- {
		till := len(l)
		for _, w := range l[from:till] {
			for i := range len(letters) {
				l = append(l, w+letters[i:i+1])
			}
		}
		from = till
	}
	return l
}

// agrees holds Null, In and First against the definition, by words of at most n bytes.
func agrees(t *testing.T, r api.Rx, asked []string, n int) {
	t.Helper()
	words := wordsOf(r, n)
	var set api.Set
	for w := range words {
		if w != "" {
			set = byteset.Or(set, byteset.Range(w[0], w[0]))
		}
	}
	if Null(r) != words[""] {
		t.Fatalf("%s: Null %t", tell(r), Null(r))
	}
	if First(r) != set {
		t.Fatalf("%s: First %q, not %q", tell(r), byteset.List(First(r)), byteset.List(set))
	}
	for _, w := range asked {
		if In(r, []byte(w)) != words[w] {
			t.Fatalf("%s: In of %q: %t", tell(r), w, !words[w])
		}
	}
}

// stepOf is P8.2, word for word.
func stepOf(r api.Rx, x byte) api.Rx {
	switch r.Kind {
	case api.RxSet:
		if byteset.Has(r.Set, x) {
			return empty
		}
		return none
	case api.RxAlt:
		var l []api.Rx
		for _, y := range r.Args {
			l = append(l, stepOf(y, x))
		}
		return rx.Alt(l...)
	case api.RxStar:
		return rx.Cat(stepOf(r.Args[0], x), r)
	case api.RxCat:
		y := rx.Cat(r.Args[1:]...)
		way := rx.Cat(stepOf(r.Args[0], x), y)
		if Null(r.Args[0]) {
			return rx.Alt(way, stepOf(y, x))
		}
		return way
	}
	return none
}

// steps holds Step of a plain expression by some bytes against P8.2.
func steps(t *testing.T, r api.Rx, bytes string) {
	t.Helper()
	for i := range len(bytes) {
		got, want := Step(r, bytes[i]), stepOf(r, bytes[i])
		if !same(got, want) || !plain(got) {
			t.Fatalf("%.2000s by %q: %.2000s, not %.2000s", tell(r), bytes[i], tell(got), tell(want))
		}
	}
}

// listsOf is every list of at most most of l.
func listsOf(l []api.Rx, most int) [][]api.Rx {
	lists := [][]api.Rx{nil}
	for from := 0; most > 0; most-- {
		till := len(lists)
		for _, x := range lists[from:till] {
			for _, r := range l {
				lists = append(lists, append(slices.Clip(x), r))
			}
		}
		from = till
	}
	return lists
}

// The chapter's example.
func TestExample(t *testing.T) {
	if !In(read(t, "a*b"), []byte("aab")) {
		t.Error("aab is a word of a*b")
	}
}

// P8.1: each kind, with all of its parts and without, plain or not.
func TestKinds(t *testing.T) {
	for _, x := range []struct {
		r     api.Rx
		words string // of at most two bytes of a and b, behind each a comma
	}{
		{none, ""}, {node(api.RxNone, empty, a), ""}, {marked(none), ""},
		{empty, ","}, {node(api.RxEmpty, a), ","}, {node(api.RxEmpty, none), ","}, {marked(empty), ","},
		{a, "a,"}, {one("ab"), "a,b,"}, {one(""), ""}, {every, "a,b,"}, {one("c"), ""}, {node(api.RxSet, empty), ""}, {marked(node(api.RxSet, empty, cat(a, b))), "a,b,"}, {marked(node(api.RxSet, none)), "a,b,"},
		{cat(), ","}, {cat(a), "a,"}, {cat(a, b), "ab,"}, {cat(empty, a, empty), "a,"}, {cat(a, none), ""}, {cat(none, a), ""}, {cat(a, one("")), ""}, {cat(cat(a), cat(), cat(b)), "ab,"}, {cat(empty, empty), ","}, {marked(cat(b)), "b,"}, {cat(alt(), a), ""}, {cat(node(9), a), ""},
		{alt(), ""}, {alt(a), "a,"}, {alt(b, a), "a,b,"}, {alt(a, a), "a,"}, {alt(a, empty), ",a,"}, {alt(none, alt(none, alt(cat(b, a)))), "ba,"}, {alt(none), ""}, {marked(alt()), ""}, {marked(alt(empty)), ","}, {alt(node(-1, empty), b), "b,"},
		{star(a), ",a,aa,"}, {star(none), ","}, {star(empty), ","}, {star(star(star(b))), ",b,bb,"}, {star(one("ab")), ",a,b,aa,ab,ba,bb,"}, {star(cat(a, b)), ",ab,"}, {star(alt(empty, cat(b, b))), ",bb,"}, {marked(star(none)), ","}, {star(node(7)), ","},
		{node(api.RxStar), ","}, {node(api.RxStar, a, b), ","}, {node(api.RxStar, a, a, a), ","}, {cat(node(api.RxStar, a, b), b), "b,"}, {alt(a, node(api.RxStar)), ",a,"}, {star(node(api.RxStar, a, b)), ","},
		{api.Rx{}, ""}, {node(0, empty, a), ""}, {node(7), ""}, {node(7, a), ""}, {marked(node(-1, a)), ""}, {node(1<<62, empty), ""},
	} {
		for _, w := range allWords("ab", 2) {
			if want := strings.Contains(","+x.words, ","+w+",") && (w != "" || strings.HasPrefix(x.words, ",")); In(x.r, []byte(w)) != want {
				t.Errorf("%s: In of %q: %t", tell(x.r), w, !want)
			}
		}
		if want := strings.HasPrefix(x.words, ","); Null(x.r) != want {
			t.Errorf("%s: Null %t", tell(x.r), !want)
		}
	}
}

// P8.1: the first bytes, which count only if a word goes on to its end.
func TestFirst(t *testing.T) {
	for _, x := range []struct {
		r    api.Rx
		want string
	}{
		{none, ""}, {empty, ""}, {a, "a"}, {one("bca"), "abc"}, {one(""), ""}, {one("\x00\x3f\x40\xff"), "\x00\x3f\x40\xff"}, {marked(none), ""}, {marked(empty), ""}, {marked(node(8)), ""}, {marked(cat(c)), "c"}, {marked(star(c)), "c"}, {marked(alt()), ""},
		{cat(a, b), "a"}, {cat(empty, b), "b"}, {cat(), ""}, {cat(star(a), b), "ab"}, {cat(star(a), alt(empty, b), c, one("d")), "abc"}, {cat(star(a), star(b)), "ab"}, {cat(alt(a, empty), cat(star(b), star(c))), "abc"},
		{cat(a, none), ""}, {cat(a, b, c, none), ""}, {cat(star(a), none, b), ""}, {cat(star(a), b, one("")), ""}, {cat(a, node(9)), ""}, {cat(star(a), cat(b, cat(c, none))), ""}, {cat(a, star(none)), "a"}, {cat(a, one("\xff")), "a"}, {cat(one("\x80"), star(b), one("\x00")), "\x80"}, {cat(a, alt(none, none)), ""}, {cat(a, alt(none, b)), "a"}, {cat(a, node(api.RxStar, none, none)), "a"},
		{alt(a, cat(b, none), c), "ac"}, {alt(), ""}, {alt(empty, a), "a"}, {alt(none, cat(star(a), b)), "ab"},
		{star(a), "a"}, {star(cat(a, none)), ""}, {star(cat(star(a), b)), "ab"}, {star(empty), ""}, {node(api.RxStar), ""}, {node(api.RxStar, a, b), ""}, {cat(node(api.RxStar, a, b), c), "c"}, {star(alt(cat(a, none), cat(b, star(none)))), "b"},
		{node(api.RxNone, a), ""}, {node(api.RxEmpty, a), ""}, {node(0, a), ""}, {node(7, a), ""}, {marked(node(api.RxSet, c)), "ab"},
	} {
		if got := string(byteset.List(First(x.r))); got != x.want {
			t.Errorf("%s: %q, not %q", tell(x.r), got, x.want)
		}
	}
	if First(cat(star(a), every)) != every.Set {
		t.Error("any byte may be first")
	}
}

// P8.1: all small expressions, plain and not, by all short words.
func TestSmall(t *testing.T) {
	asked := allWords("abc", 3)
	low := []api.Rx{none, empty, a, b, one("ab"), {}, one(""), marked(empty), node(api.RxEmpty, a), node(api.RxStar), marked(node(api.RxSet, empty))}
	for kind := range 8 {
		for _, l := range listsOf(low, 3) {
			agrees(t, node(kind, l...), asked, 3)
		}
	}
	next := []api.Rx{none, empty, a, cat(), cat(a, b), cat(b, none), cat(star(a), b), alt(empty, a), alt(a, cat(a, b)), star(a), star(cat(a, b)), star(alt(empty, cat(b, a))), node(api.RxStar, a, b), star(star(b)), cat(alt(empty, a), star(b))}
	for kind := api.RxCat; kind <= api.RxStar; kind++ {
		for _, l := range listsOf(next, 2) {
			agrees(t, node(kind, l...), asked, 5)
			agrees(t, star(cat(node(kind, l...), b)), asked, 5)
		}
	}
}

// P8.2: Step of each kind.
func TestStep(t *testing.T) {
	for _, x := range []struct{ text, by, want string }{
		{"[]", "a", "[]"}, {"", "a", "[]"}, {"a", "a", ""}, {"a", "b", "[]"}, {"[^a]", "a", "[]"}, {"[^a]", "\xff", ""}, {".", "\x00", ""},
		{"a|bc", "a", ""}, {"a|bc", "b", "c"}, {"a|bc", "c", "[]"}, {"ab|ac|a", "a", "|[bc]"}, {"ab|cb", "a", "b"}, {"ab|aab|a*b", "a", "b|ab|a*b"}, {"|a", "a", ""}, {"|ab", "a", "b"},
		{"a*", "a", "a*"}, {"a*", "b", "[]"}, {"(ab)*", "a", "b(ab)*"}, {"(ab)*", "b", "[]"}, {"(ab|ac|b)*", "a", "[bc](ab|ac|b)*"}, {"(ab|a(b|cd)e)*", "a", "(b|(b|cd)e)(ab|a(b|cd)e)*"},
		{"ab", "a", "b"}, {"ab", "b", "[]"}, {"abc", "a", "bc"}, {"(a|bc)d", "b", "cd"}, {"(ab|ac|ad)e", "a", "[bcd]e"}, {"(ab|acd)e", "a", "(b|cd)e"}, {"a*b", "a", "a*b"}, {"a*b", "b", ""}, {"a*b*", "b", "b*"}, {"a*b*", "a", "a*b*"}, {"a*ab", "a", "b|a*ab"}, {"a?ab", "a", "ab|b"}, {"(|a)(|b)c", "a", "(|b)c"}, {"(|a)(|b)c", "b", "c"}, {"(|a)(|b)c", "c", ""}, {"(|a)(|a)(|a)b", "a", "(|a)(|a)b|(|a)b|b"}, {"a+b", "a", "a*b"}, {"a*(a|bc)", "a", "|a*(a|bc)"}, {"(a*)(a*)", "a", "a*|a*a*"}, {"a*bc", "c", "[]"},
		{"((a*)b)*", "a", "a*b(a*b)*"}, {"((a*)b)*", "b", "(a*b)*"}, {"(a|b)*abb", "a", "bb|[ab]*abb"},
	} {
		r := read(t, x.text)
		for i := range len(x.by) {
			if got, want := Step(r, x.by[i]), read(t, x.want); !same(got, want) {
				t.Errorf("%s by %q: %s, not %s", x.text, x.by[i], tell(got), tell(want))
			}
		}
		steps(t, r, "abcde\x00\xff")
	}
}

// P8.2: all small plain expressions: how their Steps are made, and that these have the remainders.
func TestSmallSteps(t *testing.T) {
	low := []api.Rx{none, empty, a, one("ab"), cat(a, b), star(a), alt(empty, b), star(cat(b, a)), alt(a, cat(a, a)), cat(star(a), star(b)), cat(alt(empty, a), b)}
	for _, l := range listsOf(low, 3) {
		for _, r := range []api.Rx{rx.Cat(l...), rx.Alt(l...), rx.Star(rx.Cat(l...)), rx.Star(rx.Alt(l...)), rx.Cat(rx.Star(rx.Alt(l...)), a)} {
			steps(t, r, "abc")
			words := wordsOf(r, 4)
			for _, x := range "abc" {
				rest := wordsOf(Step(r, byte(x)), 3)
				for _, w := range allWords("ab", 3) {
					if words[string(x)+w] != rest[w] {
						t.Fatalf("%s by %q: %q", tell(r), x, w)
					}
				}
			}
		}
	}
}

// pool grows plain expressions of at most most nodes by the constructors.
func pool(numbers *rand.Rand, size, most int) []api.Rx {
	l := []api.Rx{none, empty, a, b, c, one("ab"), one("bcd"), {Kind: api.RxSet, Set: byteset.Range(0, 127)}}
	for len(l) < size {
		x, y, z := l[numbers.Intn(len(l))], l[numbers.Intn(len(l))], l[numbers.Intn(len(l))]
		r := [...]api.Rx{rx.Cat(x, y), rx.Cat(x, y, z), rx.Alt(x, y), rx.Alt(x, y, z), rx.Alt(empty, x), rx.Cat(x, rx.Star(y)), rx.Star(x)}[numbers.Intn(7)]
		if rx.Nodes(r) <= most && r.Kind != api.RxNone {
			l = append(l, r)
		}
	}
	return l
}

// pattern is the expression as package regexp reads it; its bytes are below 128.
func pattern(r api.Rx) string {
	var l []string
	for _, x := range r.Args {
		l = append(l, "(?:"+pattern(x)+")")
	}
	switch r.Kind {
	case api.RxEmpty:
		return ""
	case api.RxSet:
		s := "["
		for _, x := range byteset.List(r.Set) {
			s += fmt.Sprintf(`\x%02x`, x)
		}
		return s + "]"
	case api.RxCat:
		return strings.Join(l, "")
	case api.RxAlt:
		return strings.Join(l, "|")
	case api.RxStar:
		return l[0] + "*"
	}
	return `[^\x00-\x{10ffff}]`
}

// compiled is what package regexp makes of r.
func compiled(r api.Rx) *regexp.Regexp { return regexp.MustCompile(`\A(?:` + pattern(r) + `)\z`) }

// word makes a word of r, or what is nearly one where there is none.
func word(numbers *rand.Rand, r api.Rx) (w []byte) {
	switch r.Kind {
	case api.RxSet:
		l := byteset.List(r.Set)
		return append(w, l[numbers.Intn(len(l))])
	case api.RxCat:
		for _, x := range r.Args {
			w = append(w, word(numbers, x)...)
		}
	case api.RxAlt:
		return word(numbers, r.Args[numbers.Intn(len(r.Args))])
	case api.RxStar:
		for range numbers.Intn(4) {
			w = append(w, word(numbers, r.Args[0])...)
		}
	}
	return w
}

// spoilt is w with a byte changed, put in or taken out.
func spoilt(numbers *rand.Rand, w []byte) []byte {
	at := numbers.Intn(len(w) + 1)
	switch letter := "abcdz"[numbers.Intn(5)]; {
	case at == len(w) || numbers.Intn(3) == 0:
		return slices.Insert(slices.Clone(w), at, letter)
	case numbers.Intn(2) == 0:
		return slices.Delete(slices.Clone(w), at, at+1)
	default:
		return slices.Replace(slices.Clone(w), at, at+1, letter)
	}
}

// P8.1, P8.2: plain expressions of many sizes, held against another reader of them.
func TestGrown(t *testing.T) {
	numbers := rand.New(rand.NewSource(3))
	in, out := 0, 0
	for i, r := range pool(numbers, 1500, 150) {
		steps(t, r, "abcd\x80")
		p := compiled(r)
		if Null(r) != p.MatchString("") {
			t.Fatalf("%s: Null %t", tell(r), Null(r))
		}
		for range 10 {
			w := word(numbers, r)
			if i%2 == 0 {
				w = spoilt(numbers, w)
			}
			if len(w) > api.MaxWord {
				continue
			}
			want := p.Match(w)
			if In(r, w) != want {
				t.Fatalf("%s: In of %q: %t", tell(r), w, !want)
			}
			if want {
				in++
			} else {
				out++
			}
		}
	}
	if in < 2000 || out < 2000 {
		t.Errorf("%d and %d of a sort", in, out)
	}
}

// P8.1: First of plain expressions is what can be stepped by.
func TestFirstOfGrown(t *testing.T) {
	for _, r := range pool(rand.New(rand.NewSource(4)), 1500, 150) {
		var want api.Set
		for x := range 256 {
			// The constructors leave no expression without words but None, if none of its parts is one.
			if Step(r, byte(x)).Kind != api.RxNone {
				want = byteset.Or(want, byteset.Range(byte(x), byte(x)))
			}
		}
		if First(r) != want {
			t.Fatalf("%s: %q, not %q", tell(r), byteset.List(First(r)), byteset.List(want))
		}
	}
}

// stepped is r behind the Steps of the bytes of w, and the most nodes that are met there.
func stepped(r api.Rx, w []byte) (d api.Rx, nodes int) {
	for _, x := range w {
		r = Step(r, x)
		nodes = max(nodes, rx.Nodes(r))
	}
	return r, nodes
}

// What follows: a word is in, if Null is true behind the Steps of its bytes. The statement has no limit of its own, so it is to hold where a Step has more than MaxNodes nodes too, though not of any size.
func TestSteppedThrough(t *testing.T) {
	numbers := rand.New(rand.NewSource(5))
	in, out, large, most := 0, 0, 0, 0
	for _, r := range pool(numbers, 1500, 40) {
		for range 3 {
			w := word(numbers, r)
			if numbers.Intn(2) == 0 {
				w = spoilt(numbers, w)
			}
			w = w[:min(len(w), 20)]
			d, nodes := stepped(r, w)
			switch {
			case nodes > 2000:
				large++
				continue
			case In(r, w) != Null(d):
				t.Fatalf("%s: In of %q: %t", tell(r), w, In(r, w))
			case Null(d):
				in++
			default:
				out++
			}
			most = max(most, nodes)
		}
	}
	if in < 500 || out < 500 || large > 5 || most <= 2*api.MaxNodes {
		t.Errorf("%d, %d and %d of a sort, up to %d nodes", in, out, large, most)
	}
}

// What follows: the same for all short words of some texts.
func TestTextsSteppedThrough(t *testing.T) {
	for _, s := range []string{"", "a", "[]", "ab|c", "a*b*", "(a|b)*abb", "[^a]*", "a(b|c)*d?", "x+y+", ".*a.", "(ab|ba)*", "a|b|", "[a-c][b-d]?", "((a*)b)*", "(a?b?c?)*x", "(a*b*c*)*", "((a|bc)*(ab|c)*)*", "(a*|b)*ab(ab)?", "(|a)(|a)(|a)aaa"} {
		r := read(t, s)
		p := compiled(rx.Cat(r))
		for _, w := range allWords("abcx", 5) {
			d, _ := stepped(r, []byte(w))
			if want := p.MatchString(w); In(r, []byte(w)) != want || Null(d) != want {
				t.Errorf("%q: %q: In %t, Null behind the Steps %t", s, w, In(r, []byte(w)), Null(d))
			}
		}
	}
}

// P8.1: words of every length up to the longest, and every place in them.
func TestLongWords(t *testing.T) {
	long := bytes.Repeat([]byte("a"), api.MaxWord)
	for n := range api.MaxWord + 1 {
		row, w := cat(times(n, a)...), long[:n]
		if !In(row, w) || In(cat(row, a), w) || n > 0 && In(cat(times(n-1, a)...), w) {
			t.Errorf("%d bytes one by one", n)
		}
		if In(star(cat(a, a)), w) != (n%2 == 0) || In(star(cat(times(7, a)...)), w) != (n%7 == 0) || !In(star(a), w) || !In(star(every), w) {
			t.Errorf("%d bytes, again and again", n)
		}
		if !In(alt(b, star(alt(empty, cat(a, a), cat(a, a, a)))), w) == (n != 1) {
			t.Errorf("%d bytes by two and three", n)
		}
		if n == api.MaxWord {
			break
		}
		for _, size := range []int{n + 1, api.MaxWord} {
			w := bytes.Repeat([]byte("a"), size)
			w[n] = 'b'
			behind := size - n - 1
			if !In(cat(star(a), b, star(a)), w) || In(star(a), w) || !In(cat(star(every), b, cat(times(behind, a)...)), w) || In(cat(star(every), b, cat(times(behind+1, a)...)), w) || !In(cat(cat(times(n, every)...), b, star(every)), w) || In(cat(cat(times(n+1, every)...), b, star(every)), w) {
				t.Errorf("b at %d of %d bytes", n, size)
			}
		}
	}
	for x := range 256 {
		w := bytes.Repeat([]byte{byte(x)}, api.MaxWord)
		only := api.Rx{Kind: api.RxSet, Set: byteset.Range(byte(x), byte(x))}
		others := api.Rx{Kind: api.RxSet, Set: byteset.Not(only.Set)}
		if !In(star(only), w) || In(star(others), w) || !In(cat(times(api.MaxWord, only)...), w) || In(alt(others, star(others)), w[:1]) {
			t.Errorf("the byte %d", x)
		}
	}
}

// nested is n levels of grow around r.
func nested(n int, r api.Rx, grow func(api.Rx) api.Rx) api.Rx {
	for range n {
		r = grow(r)
	}
	return r
}

// P8.1: expressions of up to 2,000 nodes, wide and deep, by words of up to 200 bytes.
func TestManyNodes(t *testing.T) {
	long := strings.Repeat("a", api.MaxWord)
	maybe := alt(empty, a)
	counted := cat(append(times(200, maybe), times(200, a)...)...)
	stars := star(cat(times(999, star(a))...))
	tower := nested(1999, a, star)
	turns := nested(666, a, func(r api.Rx) api.Rx { return star(cat(r, b)) })
	loose := nested(399, a, func(r api.Rx) api.Rx { return star(cat(star(r), star(b))) })
	choice := nested(999, a, func(r api.Rx) api.Rx { return alt(r, b) })
	chain := nested(999, c, func(r api.Rx) api.Rx { return cat(empty, r) })
	odd := node(api.RxSet, times(1999, a)...)
	odd.Set = a.Set
	for i, x := range []struct {
		r       api.Rx
		nodes   int
		first   string
		in, out []string
	}{
		{cat(append(times(1998, empty), a)...), 2000, "a", []string{"a"}, []string{"", "aa"}},
		{cat(append(times(1798, empty), times(200, a)...)...), 1999, "a", []string{long}, []string{"", long[1:]}},
		{alt(append(times(1998, a), b)...), 2000, "ab", []string{"a", "b"}, []string{"", "ab"}},
		{counted, 801, "a", []string{long}, []string{long[1:], "", long[:199] + "b"}},
		{stars, 2000, "a", []string{"", "a", long}, []string{"b", long[1:] + "b", "b" + long[1:]}},
		{tower, 2000, "a", []string{"", "a", long}, []string{"b", long[:100] + "b"}},
		{turns, 1999, "ab", []string{"", "b", strings.Repeat("b", 200)}, []string{"a", "ba", "ab", long}},
		{loose, 1996, "ab", []string{"", "a", "b", long, strings.Repeat("ab", 100)}, []string{"c", long[1:] + "c"}},
		{choice, 1999, "ab", []string{"a", "b"}, []string{"", "c", "ab"}},
		{chain, 1999, "c", []string{"c"}, []string{"", "a", "cc"}},
		{odd, 2000, "a", []string{"a"}, []string{"", "aa"}},
		{cat(append(times(1998, star(none))[:999], a)...), 2000, "a", []string{"a"}, []string{""}},
		{star(alt(append(times(665, cat(a, a)), b)...)), 1998, "ab", []string{"", long, "aab"}, []string{"a", "ab", long[1:]}},
	} {
		if n := rx.Nodes(x.r); n != x.nodes {
			t.Errorf("%d: %d nodes", i, n)
		}
		if got := string(byteset.List(First(x.r))); got != x.first {
			t.Errorf("%d: First %q", i, got)
		}
		for _, w := range x.in {
			if !In(x.r, []byte(w)) {
				t.Errorf("%d: %.5q of %d bytes is in", i, w, len(w))
			}
		}
		for _, w := range x.out {
			if In(x.r, []byte(w)) {
				t.Errorf("%d: %.5q of %d bytes is not in", i, w, len(w))
			}
		}
		if want := slices.Contains(x.in, ""); Null(x.r) != want {
			t.Errorf("%d: Null %t", i, !want)
		}
	}
}

// P8.1: Null has no limit but that of nesting.
func TestLargeNull(t *testing.T) {
	const levels = 1<<16 - 1
	for i, x := range []struct {
		r    api.Rx
		want bool
	}{
		{nested(levels, empty, func(r api.Rx) api.Rx { return cat(r) }), true},
		{nested(levels, a, func(r api.Rx) api.Rx { return cat(r) }), false},
		{nested(levels, empty, func(r api.Rx) api.Rx { return alt(none, r) }), true},
		{nested(levels, a, func(r api.Rx) api.Rx { return alt(none, r) }), false},
		{nested(levels, a, func(r api.Rx) api.Rx { return cat(star(b), alt(a, r)) }), false},
		{nested(levels/2, empty, func(r api.Rx) api.Rx { return cat(star(b), alt(a, r)) }), true},
		{nested(levels, none, star), true},
		{cat(times(1<<20, star(a))...), true},
		{cat(append(times(1<<20, star(a)), a)...), false},
		{alt(times(1<<20, a)...), false},
		{alt(append(times(1<<20, a), cat())...), true},
		{node(7, times(1<<20, empty)...), false},
	} {
		if Null(x.r) != x.want {
			t.Errorf("%d: Null %t", i, !x.want)
		}
	}
}

// P8.2: plain expressions of up to 400 nodes, wide and deep.
func TestLargeSteps(t *testing.T) {
	var many []api.Rx
	for n := range 80 {
		many = append(many, rx.Star(api.Rx{Kind: api.RxSet, Set: byteset.Range('a', byte('a'+n))}), alt(empty, one("ab")))
	}
	for i, x := range []struct {
		r     api.Rx
		nodes int
	}{
		{cat(times(399, a)...), 400},
		{cat(times(199, star(a))...), 399},
		{rx.Cat(append(times(199, star(a)), b)...), 400},
		{cat(times(133, alt(empty, a))...), 400},
		{rx.Cat(many[:159]...), 398},
		{star(cat(append(times(132, alt(empty, a)), b)...)), 399},
		{star(rx.Alt(many[:158]...)), 162},
		{nested(133, a, func(r api.Rx) api.Rx { return rx.Star(rx.Cat(r, b)) }), 400},
		{nested(99, a, func(r api.Rx) api.Rx { return rx.Star(rx.Cat(star(b), r)) }), 397},
		{nested(57, a, func(r api.Rx) api.Rx { return rx.Star(rx.Cat(star(b), rx.Star(rx.Cat(r, b)))) }), 400},
		{nested(57, a, func(r api.Rx) api.Rx { return rx.Star(rx.Alt(b, rx.Cat(rx.Star(r), a))) }), 287},
		{nested(66, star(a), func(r api.Rx) api.Rx { return rx.Cat(rx.Star(rx.Alt(c, r)), star(b)) }), 398},
		{nested(79, c, func(r api.Rx) api.Rx { return rx.Alt(rx.Cat(r, b), empty) }), 317},
	} {
		if n := rx.Nodes(x.r); n != x.nodes || !plain(x.r) {
			t.Errorf("%d: %d nodes, plain %t", i, n, plain(x.r))
		}
		steps(t, x.r, "abc")
	}
}

// R1: expressions of any size, plain or not, and words of any length: a call ends, and soon.
func TestEndless(t *testing.T) {
	word := bytes.Repeat([]byte("ab"), 1<<16)
	ends := func(r api.Rx) {
		In(r, nil)
		In(r, word[:api.MaxWord])
		In(r, word[:api.MaxWord+1])
		In(r, word)
		First(r)
		Step(r, 'a')
	}
	for _, n := range []int{200, 399, 500, 666, 999, 1 << 12, 1<<16 - 1} {
		for _, grow := range []func(api.Rx) api.Rx{
			star,
			func(r api.Rx) api.Rx { return star(cat(r, b)) },
			func(r api.Rx) api.Rx { return cat(star(a), star(r)) },
			func(r api.Rx) api.Rx { return cat(star(r), star(a)) },
			func(r api.Rx) api.Rx { return alt(cat(a, b), r) },
			func(r api.Rx) api.Rx { return cat(r) },
			func(r api.Rx) api.Rx { return alt(r) },
			func(r api.Rx) api.Rx { return node(api.RxSet, r) },
			func(r api.Rx) api.Rx { return node(7, r) },
			func(r api.Rx) api.Rx { return cat(r, r) },
			func(r api.Rx) api.Rx { return alt(r, r) },
			func(r api.Rx) api.Rx { return star(alt(star(r), star(r))) },
		} {
			ends(nested(n, star(a), grow))
		}
		for _, x := range []api.Rx{none, empty, a, star(a), alt(empty, cat(a, b)), {}, one("")} {
			for kind := range 8 {
				ends(node(kind, times(n, x)...))
				ends(star(node(kind, times(n, x)...)))
			}
		}
	}
	for kind := range 8 {
		for n := 1; n < 4; n++ {
			l := make([]api.Rx, n)
			for i := range l {
				l[i] = node(kind, l...)
			}
			ends(node(kind, l...))
		}
	}
}

// R1: expressions that are not plain have Steps of some sort.
func TestOddSteps(t *testing.T) {
	low := []api.Rx{none, empty, a, {}, one(""), marked(empty), node(api.RxEmpty, a), node(api.RxStar), node(api.RxStar, a, b), cat(), cat(a), alt(), alt(b, a), star(none), node(-1 << 63), node(1<<63 - 1), marked(cat(a, b))}
	for kind := range 8 {
		for _, l := range listsOf(low, 3) {
			r := node(kind, l...)
			before := tell(r)
			Step(r, 'a')
			Step(star(r), 'b')
			if tell(r) != before {
				t.Fatalf("changed: %s, not %s", tell(r), before)
			}
		}
	}
}

// copied is r with lists of its own.
func copied(r api.Rx) api.Rx {
	r.Args = slices.Clone(r.Args)
	for i, x := range r.Args {
		r.Args[i] = copied(x)
	}
	return r
}

// spoil changes all of r that is not in r itself, the room behind its lists too.
func spoil(r api.Rx) {
	l := r.Args[:cap(r.Args)]
	for i := range l {
		spoil(l[i])
		l[i] = node(99)
	}
}

// R3: arguments are not changed, nor the room behind them; a result has nothing of them, nor twice the same.
func TestArguments(t *testing.T) {
	for i, text := range []string{"a*b", "(ab|ac|b)*", "a*b*c*(a|bc)*", "(|a)(|b)cd", "((a*b)*c)*", "abc", "a", "a*", "ab|(ac)*|[]"} {
		r := read(t, text)
		room := append(copied(r).Args, marked(node(9)), a)
		r.Args = room[:len(r.Args)]
		w := []byte("abcxyz")
		before := tell(node(0, room...))
		Null(r)
		First(r)
		In(r, w[:3])
		for _, x := range []byte("abc") {
			got := Step(r, x)
			want := tell(got)
			if tell(node(0, room...)) != before {
				t.Fatalf("%d: changed: %s, not %s", i, tell(node(0, room...)), before)
			}
			for _, y := range got.Args {
				spoil(y)
			}
			spoil(got)
			if tell(node(0, room...)) != before {
				t.Fatalf("%d: the Step by %q shares lists of its argument", i, x)
			}
			again := Step(r, x)
			if tell(again) != want {
				t.Fatalf("%d: %s, not %s", i, tell(again), want)
			}
			shares(t, again)
		}
		if string(w) != "abcxyz" {
			t.Fatalf("%d: the word is %q", i, w)
		}
	}
}

// shares tells of a list that stands twice in r.
func shares(t *testing.T, r api.Rx) {
	t.Helper()
	lists := map[*api.Rx]bool{}
	var walk func(api.Rx)
	walk = func(r api.Rx) {
		if len(r.Args) == 0 {
			return
		}
		if lists[&r.Args[0]] {
			t.Fatalf("a list is there twice: %s", tell(r))
		}
		lists[&r.Args[0]] = true
		for _, x := range r.Args {
			walk(x)
		}
	}
	walk(r)
}

// R3: an empty list, or word, is as good as none.
func TestEmptyLists(t *testing.T) {
	for kind := range 8 {
		x, y := api.Rx{Kind: kind, Set: a.Set}, api.Rx{Kind: kind, Set: a.Set, Args: make([]api.Rx, 0, 3)}
		if Null(x) != Null(y) || First(x) != First(y) || In(x, nil) != In(y, []byte{}) || In(x, []byte("a")) != In(y, []byte("a")) || !same(Step(x, 'a'), Step(y, 'a')) {
			t.Errorf("kind %d", kind)
		}
	}
}

// R4: what was asked before changes nothing, and each call has only its own word.
func TestSameAgain(t *testing.T) {
	r := read(t, "(a*b|c)*")
	for range 3 {
		for _, w := range allWords("abc", 4) {
			if want := w == "" || w[len(w)-1] != 'a' && !strings.Contains(w, "ac"); In(r, []byte(w)) != want {
				t.Fatalf("In of %q: %t", w, !want)
			}
		}
		steps(t, r, "abc")
	}
}
