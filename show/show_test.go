package show

import (
	"fmt"
	"math/rand"
	"slices"
	"strings"
	"testing"

	"scriptory/api"
	"scriptory/byteset"
	"scriptory/parse"
	"scriptory/rx"
)

// node makes an expression as it is said, plain or not.
func node(kind int, args ...api.Rx) api.Rx { return api.Rx{Kind: kind, Args: args} }

// one is the expression of one byte of s.
func one(s string) api.Rx { return api.Rx{Kind: api.RxSet, Set: byteset.Of([]byte(s))} }

// span is the expression of one byte from from to to.
func span(from, to byte) api.Rx { return api.Rx{Kind: api.RxSet, Set: byteset.Range(from, to)} }

// not is the expression of one byte that is none of s.
func not(s string) api.Rx {
	return api.Rx{Kind: api.RxSet, Set: byteset.Not(byteset.Of([]byte(s)))}
}

// cat, alt and star make expressions of their kinds as they are said.
func cat(l ...api.Rx) api.Rx { return node(api.RxCat, l...) }
func alt(l ...api.Rx) api.Rx { return node(api.RxAlt, l...) }
func star(r api.Rx) api.Rx   { return node(api.RxStar, r) }

// marked is r with a set of its own.
func marked(r api.Rx) api.Rx {
	r.Set = byteset.Range('a', 'a')
	return r
}

// times is n of r.
func times(n int, r api.Rx) []api.Rx { return slices.Repeat([]api.Rx{r}, n) }

// expressions of which the tests are made.
var (
	none    = node(api.RxNone)
	empty   = node(api.RxEmpty)
	a, b, c = one("a"), one("b"), one("c")
	ab, ba  = cat(a, b), cat(b, a)
	many    = star(a)
	maybe   = alt(empty, a)
	every   = span(0, 255)
)

// isPlain is the definition of chapter 5, sentence by sentence.
func isPlain(r api.Rx) bool {
	has := func(kind int) (n int) {
		for _, x := range r.Args {
			if x.Kind == kind {
				n++
			}
		}
		return n
	}
	ok := false
	switch r.Kind {
	case api.RxNone, api.RxEmpty:
		ok = len(r.Args) == 0
	case api.RxSet:
		ok = len(r.Args) == 0 && byteset.Len(r.Set) > 0
	case api.RxCat:
		ok = len(r.Args) > 1 && has(api.RxCat)+has(api.RxNone)+has(api.RxEmpty) == 0
	case api.RxAlt:
		ok = len(r.Args) > 1 && has(api.RxAlt)+has(api.RxNone) == 0 && has(api.RxSet) < 2
		for i := 1; i < len(r.Args); i++ {
			ok = ok && rx.Compare(r.Args[i-1], r.Args[i]) == -1
		}
	case api.RxStar:
		ok = len(r.Args) == 1 && has(api.RxStar)+has(api.RxNone)+has(api.RxEmpty) == 0
	}
	for _, x := range r.Args {
		ok = ok && isPlain(x)
	}
	return ok && (r.Kind == api.RxSet || r.Set == api.Set{})
}

// signText is P7.1's sign of a byte.
func signText(n byte) string {
	switch {
	case slices.Contains([]byte{'\\', '|', '*', '+', '?', '(', ')', '[', ']', '^', '-', '.'}, n):
		return fmt.Sprintf(`\%c`, n)
	case n < 32 || n > 126:
		return fmt.Sprintf(`\x%02x`, n)
	}
	return fmt.Sprintf("%c", n)
}

// setText is P7.1's text of a set that is not empty: byte by byte, a run begins and ends where a neighbour is missing.
func setText(s api.Set) string {
	in := func(n int) bool { return n >= 0 && n < 256 && byteset.Has(s, byte(n)) }
	text, size, first := "", 0, 0
	for n := range 256 {
		if !in(n) {
			continue
		}
		size++
		if !in(n - 1) {
			first = n
		}
		if in(n + 1) {
			continue
		}
		text += signText(byte(first))
		if n-first > 1 {
			text += "-"
		}
		if n > first {
			text += signText(byte(n))
		}
	}
	switch size {
	case 1:
		return text
	case 256:
		return "."
	}
	return "[" + text + "]"
}

// longText is P7.1's text of a plain expression, however long.
func longText(r api.Rx) string {
	brackets := func(x api.Rx, kinds ...int) string {
		if slices.Contains(kinds, x.Kind) {
			return "(" + longText(x) + ")"
		}
		return longText(x)
	}
	var parts []string
	switch r.Kind {
	case api.RxNone:
		return "[]"
	case api.RxEmpty:
		return "()"
	case api.RxSet:
		return setText(r.Set)
	case api.RxStar:
		return brackets(r.Args[0], api.RxCat, api.RxAlt) + "*"
	case api.RxCat:
		for _, x := range r.Args {
			parts = append(parts, brackets(x, api.RxAlt))
		}
		return strings.Join(parts, "")
	}
	for _, x := range r.Args {
		if x.Kind == api.RxEmpty {
			parts = append(parts, "")
		} else {
			parts = append(parts, longText(x))
		}
	}
	return strings.Join(parts, "|")
}

// reference is what P7.1 asks of Show.
func reference(r api.Rx) string {
	if !isPlain(r) {
		return ""
	}
	if text := longText(r); len(text) <= 4000 {
		return text
	}
	return ""
}

// shows tells of an expression that is not shown as want.
func shows(t *testing.T, r api.Rx, want string) {
	t.Helper()
	got := Show(r)
	if got == want {
		return
	}
	if len(got)+len(want) > 400 {
		t.Errorf("%d bytes, not %d", len(got), len(want))
		return
	}
	t.Errorf("%q, not %q, of %v", got, want, r)
}

// agrees tells of an expression that is not shown as the reference has it, and answers what it is to be.
func agrees(t *testing.T, r api.Rx) string {
	t.Helper()
	want := reference(r)
	shows(t, r, want)
	return want
}

// P7.1: each kind, and where parentheses and bars stand.
func TestForms(t *testing.T) {
	for _, x := range []struct {
		r    api.Rx
		want string
	}{
		{none, "[]"}, {empty, "()"}, {a, "a"}, {every, "."},
		{ab, "ab"}, {cat(a, a, b), "aab"}, {cat(a, one("ab")), "a[ab]"}, {cat(every, every), ".."}, {cat(one("1"), one("2-")), `1[\-2]`},
		{maybe, "|a"}, {alt(a, ab), "a|ab"}, {alt(a, ab, ba), "a|ab|ba"}, {alt(one("ab"), ab, ba), "[ab]|ab|ba"},
		{alt(empty, ab), "|ab"}, {alt(empty, a, ab), "|a|ab"}, {alt(a, many), "a|a*"}, {alt(empty, one("ab"), ab, many, star(b)), "|[ab]|ab|a*|b*"}, {alt(ab, ba), "ab|ba"}, {alt(empty, ab, cat(a, c), ba), "|ab|ac|ba"}, {alt(every, ab), ".|ab"},
		{many, "a*"}, {star(one("abc")), "[a-c]*"}, {star(every), ".*"}, {star(ab), "(ab)*"}, {star(maybe), "(|a)*"}, {star(alt(a, ab)), "(a|ab)*"}, {star(alt(ab, ba)), "(ab|ba)*"}, {star(one("*")), `\**`}, {star(one("\x00")), `\x00*`},
		{cat(a, many), "aa*"}, {cat(many, a), "a*a"}, {cat(many, many), "a*a*"}, {cat(a, maybe), "a(|a)"}, {cat(maybe, a), "(|a)a"}, {cat(maybe, maybe), "(|a)(|a)"}, {cat(star(ab), c), "(ab)*c"}, {cat(alt(a, ab), star(alt(ab, ba))), "(a|ab)(ab|ba)*"},
		{cat(alt(ab, ba), star(alt(ab, ba))), "(ab|ba)(ab|ba)*"}, {cat(alt(many, star(b)), a), "(a*|b*)a"},
		{star(cat(star(cat(many, b)), c)), "((a*b)*c)*"}, {alt(empty, cat(a, alt(empty, cat(b, alt(empty, c))))), "|a(|b(|c))"}, {star(alt(a, star(ab))), "(a|(ab)*)*"}, {alt(ab, star(cat(maybe, b))), "ab|((|a)b)*"},
	} {
		shows(t, x.r, x.want)
	}
	// The document's own examples.
	shows(t, rx.Alt(rx.Empty(), rx.Cat(rx.Bytes(byteset.Range('a', 'a')), rx.Bytes(byteset.Range('b', 'b')))), "|ab")
	shows(t, rx.Star(rx.Bytes(byteset.Of([]byte("abc")))), "[a-c]*")
}

// P7.1: every byte alone, beside others, as a run of one byte and at both ends of longer ones.
func TestSigns(t *testing.T) {
	for n := range 256 {
		s := string([]byte{byte(n)})
		sign := s
		switch {
		case strings.Contains(`\|*+?()[]^-.`, s):
			sign = `\` + s
		case n < ' ' || n > '~':
			sign = fmt.Sprintf(`\x%02x`, n)
		}
		shows(t, one(s), sign)
		shows(t, star(one(s)), sign+"*")
		shows(t, cat(a, one(s), a), "a"+sign+"a")
		shows(t, alt(empty, one(s), cat(one(s), b)), "|"+sign+"|"+sign+"b")
		if n > 1 {
			shows(t, one("\x00"+s), `[\x00`+sign+"]")
		}
		if n > 2 {
			shows(t, span(1, byte(n)), `[\x01-`+sign+"]")
		}
		if n < 253 {
			shows(t, span(byte(n), 254), "["+sign+`-\xfe]`)
			shows(t, one(s+"\xfe"), "["+sign+`\xfe]`)
		}
	}
	for s, want := range map[string]string{
		"\x00": `\x00`, "\x0a": `\x0a`, "\x1f": `\x1f`, " ": " ", "~": "~", "\x7f": `\x7f`, "\x80": `\x80`, "\xab": `\xab`, "\xff": `\xff`, "/": "/", "{": "{", "}": "}", ",": ",", "$": "$", "\"": "\"", "x": "x",
		`\`: `\\`, "|": `\|`, "*": `\*`, "+": `\+`, "?": `\?`, "(": `\(`, ")": `\)`, "[": `\[`, "]": `\]`, "^": `\^`, "-": `\-`, ".": `\.`,
	} {
		shows(t, one(s), want)
	}
}

// P7.1: runs of one, two and more bytes, and several of them.
func TestRuns(t *testing.T) {
	for s, want := range map[string]string{
		"ab": "[ab]", "ac": "[ac]", "abc": "[a-c]", "abcd": "[a-d]", "abd": "[abd]", "acd": "[acd]", "abde": "[abde]", "abcef": "[a-cef]", "abefg": "[abe-g]", "acegi": "[acegi]", "abcefgijk": "[a-ce-gi-k]", "cba": "[a-c]", "zyxa": "[ax-z]",
		",-.": `[,-\.]`, "-.": `[\-\.]`, "+,-": `[\+-\-]`, "[\\]^": `[\[-\^]`, "]^": `[\]\^]`, "^a": `[\^a]`, "-a": `[\-a]`, "()*+": `[\(-\+]`, "\x00\x01": `[\x00\x01]`, "\x00\x01\x02": `[\x00-\x02]`, "\xfe\xff": `[\xfe\xff]`, "\xfd\xfe\xff": `[\xfd-\xff]`, "\x00\xff": `[\x00\xff]`, "\x00\x01\xfe\xff": `[\x00\x01\xfe\xff]`, "~\x7f\x80": `[~-\x80]`, "\x1f !": `[\x1f-!]`,
	} {
		shows(t, one(s), want)
	}
	shows(t, not("a"), "[\\x00-`b-\\xff]")
	shows(t, not("ac"), "[\\x00-`bd-\\xff]")
	shows(t, not("\x00"), `[\x01-\xff]`)
	shows(t, not("\xff"), `[\x00-\xfe]`)
	shows(t, not(""), ".")
	for from := range 256 {
		for to := from; to < 256; to++ {
			agrees(t, span(byte(from), byte(to)))
			if to-from < 255 {
				agrees(t, api.Rx{Kind: api.RxSet, Set: byteset.Not(byteset.Range(byte(from), byte(to)))})
			}
		}
	}
}

// P7.1: sets of all sizes, the ones with the most runs among them.
func TestSets(t *testing.T) {
	numbers := rand.New(rand.NewSource(7))
	for range 5000 {
		var s api.Set
		for i := range s {
			s[i] = numbers.Uint64()
			for range numbers.Intn(5) {
				s[i] &= numbers.Uint64()
			}
			for range numbers.Intn(5) {
				s[i] |= numbers.Uint64()
			}
		}
		agrees(t, api.Rx{Kind: api.RxSet, Set: s})
	}
	odd := api.Set{0xaaaaaaaaaaaaaaaa, 0xaaaaaaaaaaaaaaaa, 0xaaaaaaaaaaaaaaaa, 0xaaaaaaaaaaaaaaaa}
	agrees(t, api.Rx{Kind: api.RxSet, Set: odd})
	agrees(t, api.Rx{Kind: api.RxSet, Set: byteset.Not(odd)})
}

// notPlain are expressions that are not plain, each for one reason.
func notPlain() []api.Rx {
	return []api.Rx{
		{}, node(-1), node(7), node(7, a), node(1<<40, a, b), one(""),
		node(api.RxNone, a), node(api.RxEmpty, a), node(api.RxSet, a), {Kind: api.RxSet, Set: a.Set, Args: []api.Rx{a}}, {Kind: api.RxSet, Set: a.Set, Args: []api.Rx{none}},
		marked(none), marked(empty), marked(ab), marked(maybe), marked(many), marked(node(0)), marked(node(7)),
		cat(), cat(a), cat(many), cat(a, none), cat(none, a), cat(a, empty), cat(empty, a), cat(a, ab), cat(ab, a), cat(a, b, empty), cat(empty, empty), cat(none, none),
		alt(), alt(a), alt(empty), alt(none, a), alt(a, none), alt(empty, maybe), alt(a, maybe), alt(maybe, ab), alt(a, b), alt(a, one("bc")), alt(empty, a, b), alt(one("ab"), one("c"), ab), alt(none, none),
		alt(a, a), alt(empty, empty), alt(ab, ab), alt(many, many), alt(a, empty), alt(ab, a), alt(many, a), alt(many, ab), alt(ba, ab), alt(star(b), many), alt(a, ab, empty), alt(a, cat(a, c), ab), alt(a, ab, ba, ab), alt(cat(a, b, c), ab), alt(b, a),
		alt(node(api.RxEmpty, a), a), alt(marked(empty), a), alt(node(api.RxEmpty, empty), ab),
		star(none), star(empty), star(many), node(api.RxStar), node(api.RxStar, a, b), node(api.RxStar, a, a), node(api.RxStar, a, none),
	}
}

// P7.1: what is not plain has no text, as it is and inside of what is plain but for it.
func TestNotPlain(t *testing.T) {
	for i, r := range notPlain() {
		for j, x := range []api.Rx{r, star(r), star(cat(a, r)), cat(a, r), cat(r, a), cat(a, star(r), b), alt(empty, r), alt(empty, a, r), alt(empty, star(r)), star(alt(a, cat(r, b))), cat(a, alt(ab, star(cat(r, r))))} {
			// A part that would be plain elsewhere may be so here.
			if isPlain(x) {
				if j == 0 {
					t.Errorf("%d is plain", i)
				}
				continue
			}
			if s := Show(x); s != "" {
				t.Errorf("%d, %d: %q", i, j, s)
			}
		}
	}
}

// listsOf is every list of at most most of l.
func listsOf(l []api.Rx, most int) [][]api.Rx {
	lists := [][]api.Rx{nil}
	for from := 0; most > 0; most-- {
		till := len(lists)
		for _, x := range lists[from:till] {
			for _, r := range l {
				lists = append(lists, append(slices.Clip(x), r))
			}
		}
		from = till
	}
	return lists
}

// P7.1: all small expressions, plain and not.
func TestSmall(t *testing.T) {
	low := []api.Rx{none, empty, a, b, every, {}, one(""), marked(empty), node(api.RxEmpty, a)}
	var next []api.Rx
	for kind := range 8 {
		for _, l := range listsOf(low, 3) {
			for _, set := range []api.Set{{}, a.Set} {
				r := api.Rx{Kind: kind, Set: set, Args: l}
				// Of the ones that have no text, some will do.
				if agrees(t, r) != "" || kind > api.RxSet && len(l) == 1 {
					next = append(next, r)
				}
			}
		}
	}
	shown := 0
	for kind := api.RxCat; kind <= api.RxStar; kind++ {
		for _, l := range listsOf(next, 2) {
			if agrees(t, node(kind, l...)) != "" {
				shown++
			}
		}
	}
	if shown < 500 {
		t.Errorf("only %d of them are shown", shown)
	}
}

// pool grows plain expressions by the constructors.
func pool(numbers *rand.Rand, size, bytes int) []api.Rx {
	l := []api.Rx{none, empty, a, b, c, every, one(`\|*+?()[]^-.`), one("\x00\xff"), not("^"), one("ab"), span(0, 31), span('+', '.'), span('Z', '^')}
	for len(l) < size {
		x, y, z := l[numbers.Intn(len(l))], l[numbers.Intn(len(l))], l[numbers.Intn(len(l))]
		r := [...]api.Rx{rx.Cat(x, y), rx.Cat(x, y, z), rx.Alt(x, y), rx.Alt(x, y, z), rx.Alt(empty, x), rx.Cat(x, rx.Star(x)), rx.Star(x)}[numbers.Intn(7)]
		if len(longText(r)) <= bytes {
			l = append(l, r)
		}
	}
	return l
}

// P7.1: plain expressions of all sizes.
func TestGrown(t *testing.T) {
	for _, r := range pool(rand.New(rand.NewSource(8)), 1000, 4000) {
		if agrees(t, r) == "" {
			t.Errorf("no text: %v", r)
		}
	}
	full := 0
	for _, r := range pool(rand.New(rand.NewSource(9)), 3000, 8000) {
		if agrees(t, r) == "" {
			full++
		}
	}
	if full < 100 {
		t.Errorf("only %d are too long", full)
	}
}

// copied is r with lists of its own.
func copied(r api.Rx) api.Rx {
	r.Args = slices.Clone(r.Args)
	for i, x := range r.Args {
		r.Args[i] = copied(x)
	}
	return r
}

// spoil changes something somewhere in r, which has lists of its own.
func spoil(numbers *rand.Rand, r *api.Rx) {
	if n := len(r.Args); n > 0 && numbers.Intn(4) > 0 {
		spoil(numbers, &r.Args[numbers.Intn(n)])
		return
	}
	n := len(r.Args)
	switch numbers.Intn(6) {
	case 0:
		r.Kind = numbers.Intn(8)
	case 1:
		r.Set[numbers.Intn(4)] ^= 1 << numbers.Intn(64)
	case 2:
		r.Args = append(r.Args, []api.Rx{none, empty, a, ab, many}[numbers.Intn(5)])
	case 3:
		r.Args = r.Args[:n/2]
	case 4:
		if n > 1 {
			i := numbers.Intn(n - 1)
			r.Args[i], r.Args[i+1] = r.Args[i+1], r.Args[i]
		}
	case 5:
		if n > 1 {
			i := numbers.Intn(n - 1)
			r.Args[i] = copied(r.Args[i+1])
		}
	}
}

// P7.1: expressions with a thing changed somewhere.
func TestSpoilt(t *testing.T) {
	numbers := rand.New(rand.NewSource(10))
	l := pool(numbers, 2000, 300)
	shown := 0
	for range 30000 {
		r := copied(l[numbers.Intn(len(l))])
		spoil(numbers, &r)
		if agrees(t, r) != "" {
			shown++
		}
	}
	if shown < 3000 || shown > 27000 {
		t.Errorf("%d of them are shown", shown)
	}
}

// P7.1: the longest texts, cut off at each of their places: 4,000 bytes are a text, one more is none.
func TestLongest(t *testing.T) {
	for _, x := range []struct {
		r    api.Rx
		want string
	}{
		{b, "b"}, {one("*"), `\*`}, {one("\x00"), `\x00`}, {every, "."}, {one("ac"), "[ac]"}, {one("bc"), "[bc]"}, {span('a', 'z'), "[a-z]"}, {one("-*"), `[\*\-]`}, {span(0, 9), `[\x00-\x09]`},
		{many, "a*"}, {star(every), ".*"}, {star(ab), "(ab)*"}, {maybe, "(|a)"}, {alt(a, ab), "(a|ab)"}, {star(maybe), "(|a)*"}, {star(cat(maybe, many)), "((|a)a*)*"}, {alt(empty, cat(a, alt(ab, many))), "(|a(ab|a*))"},
	} {
		for n := 4000 - len(x.want) - 3; n < 4004; n++ {
			text := strings.Repeat("a", n) + x.want
			r := cat(append(times(n, a), x.r)...)
			for _, y := range []struct {
				r    api.Rx
				want string
			}{{r, text}, {star(r), "(" + text + ")*"}, {alt(empty, r), "|" + text}, {alt(a, r, star(b)), "a|" + text + "|b*"}, {cat(maybe, star(r)), "(|a)(" + text + ")*"}} {
				if len(y.want) > 4000 {
					y.want = ""
				}
				shows(t, y.r, y.want)
			}
		}
	}
	shows(t, cat(times(4000, a)...), strings.Repeat("a", 4000))
	shows(t, cat(times(4001, a)...), "")
	shows(t, cat(times(2000, one("*"))...), strings.Repeat(`\*`, 2000))
	shows(t, cat(times(1000, one("\xff"))...), strings.Repeat(`\xff`, 1000))
	shows(t, cat(times(1001, one("\xff"))...), "")
}

// P7.1: neither the nodes nor the depth of a plain expression are limited, only its text.
func TestBeyondMay(t *testing.T) {
	wide := cat(times(1500, a)...)
	deep, text := a, "a"
	for range 900 {
		deep, text = star(cat(deep, b)), "("+text+"b)*"
	}
	choice, parts := empty, ""
	for n := range 256 {
		choice.Kind, choice.Args = api.RxAlt, append(choice.Args, star(span(byte(n), byte(n))))
	}
	slices.SortFunc(choice.Args, rx.Compare)
	for _, x := range choice.Args {
		parts += "|" + longText(x)
	}
	for _, x := range []struct {
		r    api.Rx
		want string
		why  api.Errno
	}{{wide, strings.Repeat("a", 1500), api.ErrLong}, {deep, text, api.ErrLong}, {choice, parts[1:], api.ErrLong}, {alt(empty, wide), "|" + strings.Repeat("a", 1500), api.ErrLong}} {
		if e := rx.May(x.r); e != x.why {
			t.Errorf("error %d, not %d", e, x.why)
		}
		shows(t, x.r, x.want)
	}
	thin := a
	for range 20 {
		thin = star(cat(thin, b))
	}
	if e := rx.May(thin); e != api.ErrDeep {
		t.Errorf("error %d, not %d", e, api.ErrDeep)
	}
	shows(t, thin, strings.Repeat("(", 20)+"a"+strings.Repeat("b)*", 20))
}

// P7.1: what is not plain in a large expression is seen, wherever it stands.
func TestNotPlainInLarge(t *testing.T) {
	for i, bad := range notPlain() {
		deep := bad
		if bad.Kind == api.RxCat || isPlain(cat(bad, b)) {
			continue
		}
		for range 500 {
			deep = star(cat(deep, b))
		}
		for j, r := range []api.Rx{deep, cat(append(times(1500, a), bad)...), cat(append([]api.Rx{bad}, times(1500, a)...)...), cat(append(times(9000, a), bad)...)} {
			if s := Show(r); s != "" {
				t.Errorf("%d, %d: a text of %d bytes", i, j, len(s))
			}
		}
	}
	large := cat(times(1300, a)...)
	larger := cat(append(times(1300, a), b)...)
	shows(t, alt(large, larger), longText(large)+"|"+longText(larger))
	for i, r := range []api.Rx{alt(larger, large), alt(large, large), alt(larger, larger), alt(large, larger, large), alt(larger, star(larger), star(large)), alt(star(larger), star(large)), cat(large, a)} {
		if s := Show(r); s != "" {
			t.Errorf("%d: a text of %d bytes", i, len(s))
		}
	}
}

// P7.1 and R1: expressions so large that nobody could go through them have no text, plain or not, and so have those whose lists hold themselves.
func TestEndless(t *testing.T) {
	for i, grow := range []func(r api.Rx) api.Rx{
		func(r api.Rx) api.Rx { return cat(star(r), star(r)) },
		func(r api.Rx) api.Rx { return star(cat(alt(a, r), alt(a, r))) },
		func(r api.Rx) api.Rx { return alt(cat(a, r), star(cat(a, r))) },
		func(r api.Rx) api.Rx { return alt(cat(r, a), cat(r, b)) },
		func(r api.Rx) api.Rx { return alt(star(cat(a, r)), star(cat(a, r))) },
		func(r api.Rx) api.Rx { return cat(r, r) },
		func(r api.Rx) api.Rx { return alt(r, r) },
		func(r api.Rx) api.Rx { return alt(star(r), star(r)) },
		func(r api.Rx) api.Rx { return node(api.RxStar, r, r) },
		func(r api.Rx) api.Rx { return node(api.RxSet, r, r) },
		func(r api.Rx) api.Rx { return node(api.RxEmpty, r, r) },
		func(r api.Rx) api.Rx { return node(api.RxNone, r, r) },
		func(r api.Rx) api.Rx { return node(0, r, r) },
		func(r api.Rx) api.Rx { return alt(node(api.RxEmpty, r, r), cat(a, r)) },
	} {
		r := ab
		for range 2000 {
			r = grow(r)
		}
		if s := Show(r); s != "" {
			t.Errorf("%d: a text of %d bytes", i, len(s))
		}
	}
	for kind := range 8 {
		for n := 1; n < 4; n++ {
			l := make([]api.Rx, n)
			for i := range l {
				l[i] = node(kind, l...)
			}
			if s := Show(node(kind, l...)); s != "" {
				t.Errorf("%d of the kind %d: a text of %d bytes", n, kind, len(s))
			}
		}
	}
	for i, l := range [][]api.Rx{times(1<<17, a), times(1<<17, empty), times(1<<17, none), times(1<<17, ab), times(1<<17, node(0))} {
		for kind := range 8 {
			if s := Show(node(kind, l...)); s != "" {
				t.Errorf("%d in the kind %d: a text of %d bytes", i, kind, len(s))
			}
		}
	}
	// Plain all the way down, if there were an end.
	ring := []api.Rx{a, cat(a, none)}
	ring[1].Args[1] = star(alt(ring...))
	if s := Show(alt(ring...)); s != "" {
		t.Errorf("a ring: a text of %d bytes", len(s))
	}
}

// restars tells whether somewhere in r a choice with the empty word is starred: Star never leaves that word in it.
func restars(r api.Rx) bool {
	if r.Kind == api.RxStar && r.Args[0].Kind == api.RxAlt && r.Args[0].Args[0].Kind == api.RxEmpty {
		return true
	}
	return slices.ContainsFunc(r.Args, restars)
}

// same tells whether two expressions are so in all their fields.
func same(x, y api.Rx) bool {
	return x.Kind == y.Kind && x.Set == y.Set && slices.EqualFunc(x.Args, y.Args, same)
}

// What follows: a text that is accepted is read as the expression that it is of.
func TestReadAgain(t *testing.T) {
	numbers := rand.New(rand.NewSource(11))
	read := 0
	for _, r := range pool(numbers, 8000, 220) {
		s := Show(r)
		got, at, e := parse.Parse(s)
		switch {
		case e == api.OK && !same(got, r):
			t.Fatalf("%q is read as %v, not as %v", s, got, r)
		case e == api.OK:
			read++
		case e != api.ErrLimit || len(s) <= api.MaxText && rx.May(r) == api.OK:
			t.Fatalf("%q: error %d at %d", s, e, at)
		}
	}
	if read < 3000 {
		t.Errorf("only %d of them are read", read)
	}
}

// What follows: the same of all small expressions, the ones that no constructor makes left out.
func TestSmallReadAgain(t *testing.T) {
	l := []api.Rx{none, empty, a, one("ab"), every, ab, ba, many, maybe, star(ab), alt(ab, ba), star(alt(ab, ba)), cat(maybe, a), alt(a, many)}
	read := 0
	for kind := api.RxNone; kind <= api.RxStar; kind++ {
		for _, x := range listsOf(l, 3) {
			r := node(kind, x...)
			s := Show(r)
			if s == "" || restars(r) {
				continue
			}
			read++
			if got, _, e := parse.Parse(s); e != api.OK || !same(got, r) {
				t.Errorf("%q: error %d, %v, not %v", s, e, got, r)
			}
		}
	}
	if read < 500 {
		t.Errorf("only %d of them are read", read)
	}
}

// What follows, from the other side: what is read from any text is plain, and has a text that is read as it.
func TestReadShown(t *testing.T) {
	for _, s := range []string{"", "()", "[]", "[^]", ".", "a|b|", "(a|b)*c+", "a?b?", "((a|bc)+d)?", `[^\x00-a]`, `\x00\xff`, `[\]\[\\]+`, "-^ ", "(|a)+", "a+++", "(a?b)*", "ab|ac|a", "[a-c]|d|e"} {
		r, _, e := parse.Parse(s)
		text := Show(r)
		again, _, f := parse.Parse(text)
		if e != api.OK || f != api.OK || !same(r, again) {
			t.Errorf("%q: error %d; its text %q: error %d", s, e, text, f)
		}
	}
}

// R3: an argument is not changed, nor the room behind its lists, and an empty list is as good as none.
func TestArguments(t *testing.T) {
	room := []api.Rx{empty, a, ab, marked(node(9))}
	r := node(api.RxAlt, room[:3:4]...)
	r.Args[0].Args = []api.Rx{}
	r.Args[1].Args = make([]api.Rx, 0, 2)
	was := copied(node(0, room...))
	shows(t, r, "|a|ab")
	if !same(node(0, room...), was) {
		t.Errorf("changed: %v, not %v", room, was.Args)
	}
	for _, x := range []struct {
		r    api.Rx
		want string
	}{{none, "[]"}, {empty, "()"}, {a, "a"}} {
		x.r.Args = nil
		shows(t, x.r, x.want)
		x.r.Args = make([]api.Rx, 0, 3)
		shows(t, x.r, x.want)
	}
}

// R4: what is asked before changes nothing.
func TestSameAgain(t *testing.T) {
	for _, r := range []api.Rx{alt(empty, ab), cat(times(4001, a)...), star(none), cat(times(4000, a)...), not("a")} {
		want := agrees(t, r)
		shows(t, r, want)
	}
}
