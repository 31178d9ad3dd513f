package parse

import (
	"fmt"
	"math/rand"
	"regexp"
	"strings"
	"testing"

	"scriptory/api"
	"scriptory/byteset"
	"scriptory/rx"
)

// one is the expression of one byte of s.
func one(s string) api.Rx { return api.Rx{Kind: api.RxSet, Set: byteset.Of([]byte(s))} }

// span is the expression of one byte from from to to.
func span(from, to byte) api.Rx { return rx.Bytes(byteset.Range(from, to)) }

// not is the expression of one byte that is none of s.
func not(s string) api.Rx { return rx.Bytes(byteset.Not(byteset.Of([]byte(s)))) }

// maybe is r or the empty word.
func maybe(r api.Rx) api.Rx { return rx.Alt(rx.Empty(), r) }

// some is r once or more often.
func some(r api.Rx) api.Rx { return rx.Cat(r, rx.Star(r)) }

// expressions of which the tests are made.
var (
	a, b, c = one("a"), one("b"), one("c")
	none    = rx.None()
	empty   = rx.Empty()
	every   = span(0, 255)
)

// tell writes all of an expression, so that two texts are the same where the expressions are.
func tell(r api.Rx) string {
	var s strings.Builder
	fmt.Fprintf(&s, "%d", r.Kind)
	if r.Set != (api.Set{}) {
		fmt.Fprintf(&s, "%x", r.Set)
	}
	if len(r.Args) > 0 {
		s.WriteString("(")
		for _, x := range r.Args {
			s.WriteString(tell(x) + " ")
		}
		s.WriteString(")")
	}
	return s.String()
}

// reads tells of a text that isn't read as want.
func reads(t *testing.T, s string, want api.Rx) {
	t.Helper()
	r, at, e := Parse(s)
	if e != api.OK || at != 0 {
		t.Errorf("%q: error %d at %d", s, e, at)
		return
	}
	if tell(r) != tell(want) || rx.May(r) != api.OK {
		t.Errorf("%q: %s, not %s", s, tell(r), tell(want))
	}
}

// fails tells of a text that isn't refused with this error at this place, and nothing beside it.
func fails(t *testing.T, s string, wantAt int, want api.Errno) {
	t.Helper()
	r, at, e := Parse(s)
	if e != want || at != wantAt {
		t.Errorf("%q: error %d at %d, not %d at %d", s, e, at, want, wantAt)
	}
	if tell(r) != "0" || r.Args != nil {
		t.Errorf("%q: beside an error: %s", s, tell(r))
	}
}

// P6.1: what each form of the grammar describes.
func TestForms(t *testing.T) {
	for _, x := range []struct {
		s    string
		want api.Rx
	}{
		{"", empty}, {"()", empty}, {"(())()", empty}, {"|", empty}, {"(|)|", empty},
		{"a", a}, {"(a)", a}, {"ab", rx.Cat(a, b)}, {"a()b", rx.Cat(a, b)}, {"a(bc)", rx.Cat(a, b, c)}, {"(ab)c", rx.Cat(a, b, c)},
		{"a|b", one("ab")}, {"a|", rx.Alt(a, empty)}, {"|a", rx.Alt(a, empty)}, {"a||b", rx.Alt(a, empty, b)},
		{"ab|c", rx.Alt(rx.Cat(a, b), c)}, {"a|bc", rx.Alt(a, rx.Cat(b, c))}, {"a(b|c)", rx.Cat(a, one("bc"))}, {"(ab|)c", rx.Cat(maybe(rx.Cat(a, b)), c)},
		{"ba|ab", rx.Alt(rx.Cat(a, b), rx.Cat(b, a))}, {"ab|ab", rx.Cat(a, b)}, {"ab|(ba|c)", rx.Alt(rx.Cat(a, b), rx.Cat(b, a), c)},
		{"a*", rx.Star(a)}, {"ab*", rx.Cat(a, rx.Star(b))}, {"(ab)*", rx.Star(rx.Cat(a, b))}, {"a*b*", rx.Cat(rx.Star(a), rx.Star(b))}, {"(a|bc)*", rx.Star(rx.Alt(a, rx.Cat(b, c)))},
		{"a+", rx.Cat(a, rx.Star(a))}, {"ab+", rx.Cat(a, b, rx.Star(b))}, {"(ab)+", rx.Cat(a, b, rx.Star(rx.Cat(a, b)))},
		{"a?", rx.Alt(empty, a)}, {"ab?", rx.Cat(a, maybe(b))}, {"(ab)?", maybe(rx.Cat(a, b))},
		{"a**", rx.Star(a)}, {"a+*", rx.Star(some(a))}, {"a*+", rx.Cat(rx.Star(a), rx.Star(a))}, {"a++", some(some(a))}, {"a?*", rx.Star(a)}, {"a*?", maybe(rx.Star(a))}, {"a??", maybe(a)}, {"a?+", some(maybe(a))}, {"a+?", maybe(some(a))},
		{"()*", empty}, {"()+", empty}, {"()?", empty}, {"[]*", empty}, {"[]+", none}, {"[]?", empty}, {"a[]", none}, {"a[]*", a}, {"a|[]", a}, {"ab[]|c", c},
		{".", every}, {".*", rx.Star(every)}, {"a.", rx.Cat(a, every)}, {`\.`, one(".")}, {"a|.", every},
		{"[]", none}, {"[^]", every}, {"[a]", a}, {"[^a]", not("a")}, {"[abc]", one("abc")}, {"[cba]", one("abc")}, {"[aa]", a}, {"[^ab]", not("ab")}, {"[][]", none}, {"[^]a", rx.Cat(every, a)},
		{"[a-c]", one("abc")}, {"[^a-c]", not("abc")}, {"[a-a]", a}, {"[a-cx]", one("abcx")}, {"[xa-c]", one("abcx")}, {"[a-bc-d]", one("abcd")}, {"[a-cb-d]", one("abcd")}, {"[ -~]", span(' ', '~')}, {"[!-#]", one("!\"#")},
		{`[\x00-\xff]`, every}, {`[^\x00-\xff]`, none}, {`[^\x00-\xff]*`, empty}, {`[\x00-a]`, span(0, 'a')}, {`[a-\xff]`, span('a', 255)}, {`[\xff-\xff]`, one("\xff")},
		{`[\--\.]`, one("-.")}, {`[\^]`, one("^")}, {`[^\^]`, not("^")}, {`[\]]`, one("]")}, {`[\[\]]`, one("[]")}, {`[\\]`, one(`\`)}, {`[a\-z]`, one("a-z")}, {`[\x5e-\x60]`, one("^_`")}, {`[a\x2dz]`, one("a-z")},
		{"^", one("^")}, {"-", one("-")}, {"a-b", rx.Cat(a, one("-"), b)}, {"^a^", rx.Cat(one("^"), a, one("^"))}, {"-*", rx.Star(one("-"))}, {" ", one(" ")}, {"~", one("~")}, {"{,}", rx.Cat(one("{"), one(","), one("}"))}, {"x0", rx.Cat(one("x"), one("0"))},
		{`\x00`, one("\x00")}, {`\xff`, one("\xff")}, {`\x61`, a}, {`\x611`, rx.Cat(a, one("1"))}, {`\x2a*`, rx.Star(one("*"))}, {`\\x`, rx.Cat(one(`\`), one("x"))}, {`\(a\)`, rx.Cat(one("("), a, one(")"))}, {`a\|b`, rx.Cat(a, one("|"), b)}, {`\**`, rx.Star(one("*"))},
	} {
		reads(t, x.s, x.want)
	}
}

// P6.1: every byte as a sign of its own, behind a backslash, and as two digits, without and within a class.
func TestSigns(t *testing.T) {
	for n := range 256 {
		s := string([]byte{byte(n)})
		sign := one(s)
		alone := n >= 32 && n <= 126 && !strings.Contains(`\|*+?()[].`, s)
		if alone {
			reads(t, "a"+s, rx.Cat(a, sign))
		} else if !strings.Contains(`\|*+?([.`, s) {
			fails(t, "a"+s, 1, api.ErrParse)
			fails(t, "a|"+s, 2, api.ErrParse)
		}
		if alone && s != "^" && s != "-" {
			reads(t, "[a"+s+"]", one("a"+s))
			reads(t, `[\x00-`+s+"]", span(0, byte(n)))
		} else if s != `\` && s != "]" {
			fails(t, "[a-b"+s+"]", 4, api.ErrParse)
			fails(t, `[\x00-`+s+"]", 6, api.ErrParse)
		}
		if strings.Contains(`\|*+?()[]^-.`, s) {
			reads(t, `\`+s, sign)
			reads(t, `a\`+s+"*", rx.Cat(a, rx.Star(sign)))
			reads(t, `[b\`+s+"]", one("b"+s))
			reads(t, `[\x00-\`+s+"]", span(0, byte(n)))
		} else if s != "x" {
			fails(t, `\`+s, 1, api.ErrParse)
			fails(t, `a[b\`+s+"]", 4, api.ErrParse)
		}
		hex := fmt.Sprintf(`\x%02x`, n)
		reads(t, hex, sign)
		reads(t, "["+hex+"]", sign)
		reads(t, `[\x00-`+hex+"]", span(0, byte(n)))
		reads(t, "["+hex+`-\xff]`, span(byte(n), 255))
		if !strings.Contains("0123456789abcdef", s) {
			fails(t, `\x`+s+"0", 2, api.ErrParse)
			fails(t, `\x0`+s, 3, api.ErrParse)
			fails(t, `[\x0`+s+"]", 4, api.ErrParse)
		}
	}
}

// P6.1: every range is read if it isn't in descending order, and else refused at its second sign.
func TestRanges(t *testing.T) {
	for from := range 256 {
		for to := range 256 {
			s := fmt.Sprintf(`(|a[^\x%02x-\x%02x])`, from, to)
			if to < from {
				fails(t, s, 10, api.ErrParse)
			} else {
				reads(t, s, maybe(rx.Cat(a, rx.Bytes(byteset.Not(byteset.Range(byte(from), byte(to)))))))
			}
		}
	}
}

// P6.1: the first byte that cannot follow the bytes before it.
func TestErrParse(t *testing.T) {
	for _, x := range []struct {
		s  string
		at int
	}{
		{"a)", 1}, {"(a", 2}, {"*", 0}, {"+", 0}, {"?", 0}, {")", 0}, {"]", 0}, {"(", 1}, {"[", 1}, {`\`, 1},
		{"a|*", 2}, {"|?", 1}, {"(+", 1}, {"(*)", 1}, {"(a|+)", 3}, {"()a)", 3}, {"(()", 3}, {"((a)|b", 6}, {"(a))(", 3}, {"a]", 1}, {"[a]]", 3}, {"a|)", 2},
		{"[b-a]", 3}, {"[b-a", 3}, {`[b-\x61]`, 3}, {`[\x62-a]`, 6}, {`[\x62-\x61]`, 6}, {"[ab-a]", 4}, {"[^b-a]", 4}, {"[a-bz-y]", 6}, {"(b[b-a*", 5}, {`[b-\-]`, 3}, {"[b-a*]", 3}, {"*[b-a]", 0}, {"[*b-a]", 1}, {`[b-\xg]`, 5}, {`[b-\x6`, 6},
		{"[^", 2}, {"[a", 2}, {"[a-", 3}, {"[a-b", 4}, {`[\`, 2}, {`[\x`, 3}, {`[\x6`, 4}, {`[a-\`, 4}, {`[a-\x`, 5}, {"[]a]", 3}, {"[a-]", 3}, {"[-a]", 1}, {"[-]", 1}, {"[^-a]", 2}, {"[a--]", 3}, {"[a-b-c]", 4}, {"[a-^]", 3}, {"[^^]", 2}, {"[a^]", 2}, {"[[]", 1}, {"[a[]]", 2}, {"[.]", 1}, {"[(]", 1}, {"[)]", 1}, {"[|]", 1}, {"[*]", 1}, {"[+]", 1}, {"[?]", 1}, {"(a[b)", 4},
		{`a\`, 2}, {`(a\`, 3}, {`\x`, 2}, {`\x1`, 3}, {`\xg0`, 2}, {`\x0g`, 3}, {`\xA0`, 2}, {`\xaF`, 3}, {`\x 1`, 2}, {`\x\61`, 2}, {`\a`, 1}, {`\n`, 1}, {`\X61`, 1}, {`\ `, 1}, {`\0`, 1}, {"\\\n", 1}, {"[\\\x00]", 2},
		{"\n", 0}, {"ab\x00", 2}, {"a\x7f", 1}, {"a\x80", 1}, {"é", 0}, {"[é]", 1}, {"\xff*", 0}, {"a\xff", 1}, {"[\xff", 1}, {"\x1f", 0}, {"(\t)", 1},
	} {
		fails(t, x.s, x.at, api.ErrParse)
	}
}

// seven has 319 nodes: each sign doubles what is repeated. One sign more would make it 639.
func seven(sign string) string { return sign + strings.Repeat("+", 7) }

// long returns a text of a cat of n nodes, which is at least 319.
func long(n int) string { return seven("a") + strings.Repeat("a", n-319) }

// deep returns a text of an expression of the depth 2 * n + 1.
func deep(n int) string { return strings.Repeat("(", n) + "a" + strings.Repeat("b)*", n) }

// nest returns s in n pairs of parentheses.
func nest(n int, s string) string { return strings.Repeat("(", n) + s + strings.Repeat(")", n) }

// P6.1: what is just within the limits, and what is large only on its way.
func TestWithinLimits(t *testing.T) {
	for i, s := range []string{
		strings.Repeat("a", 200), strings.Repeat("()", 100), strings.Repeat(`\x00`, 50),
		nest(30, ""), nest(30, "a"), nest(30, "") + nest(30, "a"), nest(29, strings.Repeat("()", 50)), strings.Repeat(`\(`, 100),
		long(400), "(" + long(400) + ")", "(" + long(399) + ")*", "(" + long(398) + ")?", seven("a"), seven("a") + "|" + seven("a"), seven("a") + "|" + strings.Repeat("b", 79),
		deep(14), deep(14) + "b", "(" + deep(14) + ")?", "(" + deep(14) + "b)[]",
		long(401) + "[]", "[]" + long(401), "(" + long(401) + "[])*", seven("a") + seven("b") + "[]", "c|" + long(401) + "[]",
	} {
		r, at, e := Parse(s)
		if e != api.OK || at != 0 || rx.May(r) != api.OK {
			t.Errorf("%d: %q: error %d at %d", i, s, e, at)
		}
	}
	reads(t, long(401)+"[]", none)
	reads(t, nest(30, "a"), a)
	large := a
	for range 7 {
		large = some(large)
	}
	for range 400 - 319 {
		large = rx.Cat(large, a)
	}
	reads(t, long(400), large)
	low := a
	for range 14 {
		low = rx.Star(rx.Cat(low, b))
	}
	reads(t, deep(14)+"b", rx.Cat(low, b))
	if rx.Nodes(large) != api.MaxNodes || rx.Depth(rx.Cat(low, b)) != api.MaxDepth {
		t.Errorf("%d nodes, the depth %d", rx.Nodes(large), rx.Depth(low)+1)
	}
}

// P6.1: each limit, and that it comes ahead of all errors of the bytes that follow.
func TestErrLimit(t *testing.T) {
	for _, s := range []string{
		// the text's length, ahead of all
		strings.Repeat("a", 201), strings.Repeat("()", 100) + "a", "*" + strings.Repeat("a", 200), strings.Repeat("a", 200) + "*", strings.Repeat("\x00", 201), strings.Repeat("[", 1<<16), nest(100, "a"),
		// parentheses
		nest(31, "a"), strings.Repeat("(", 31), strings.Repeat("(", 31) + "*", strings.Repeat("(", 31) + "]", "a" + nest(30, "b") + strings.Repeat("(", 31), nest(29, "()(())()"),
		// a rep
		seven("a") + "+", seven("a") + "+)", seven("a") + "+*", seven("a") + "+\n", seven("a") + "+[]", "([]|" + seven("a") + "+[]", "b|" + seven("a") + "+]", "(" + long(400) + ")*", "(" + long(399) + ")?", "(" + long(400) + ")*[]", "(" + long(399) + ")?[]", "(" + long(399) + ")?]",
		deep(15), deep(15) + "[]", deep(15) + ")", "(" + deep(14) + "b)?", "(" + deep(14) + "b)?[]", "(" + deep(14) + "b)+[]", "(" + deep(14) + "b)?*",
		// a cat
		long(401), long(401) + "|", long(401) + "|*", long(401) + "|[]", long(401) + ")", long(401) + "))", "(" + long(401), "(" + long(401) + ")[]", "(" + long(401) + "|\n", "(" + long(401) + ")\n", seven("a") + seven("b"),
		// an alt
		seven("a") + "|" + seven("b"), seven("a") + "|" + seven("b") + ")", "(" + seven("a") + "|" + seven("b"), "(" + seven("a") + "|" + seven("b") + ")[]", "(" + seven("a") + "|" + seven("b") + ")*", seven("a") + "|" + strings.Repeat("b", 80), deep(14) + "b|c", "(|" + deep(14) + "b)[]",
	} {
		fails(t, s, 0, api.ErrLimit)
	}
}

// P6.1: an error that comes ahead of a limit, and places where what is large isn't asked for yet.
func TestErrParseAheadOfLimits(t *testing.T) {
	for _, x := range []struct {
		s  string
		at int
	}{
		{"*" + strings.Repeat("a", 199), 0}, {strings.Repeat("a", 199) + ")", 199}, {strings.Repeat("a", 199) + "(", 200}, {strings.Repeat("(", 30), 30}, {strings.Repeat("(", 30) + "*", 30},
		{")" + strings.Repeat("(", 31), 0}, {"[" + strings.Repeat("(", 31), 1}, {nest(30, "a") + ")", 61}, {"*" + seven("a") + "+", 0}, {seven("a") + ")+", 8},
		{long(401) + "]", 90}, {long(401) + "\n", 90}, {long(401) + `\`, 91}, {long(401) + `\x0`, 93}, {long(401) + "[", 91}, {long(401) + "[b-a]", 93}, {long(401) + "(", 91}, {long(401) + "(*", 91}, {long(401) + "(b|c", 94},
		{long(401) + "[])", 92}, {"(" + long(401) + "[]", 93}, {long(401) + "[]|*", 93},
		{seven("a") + "|" + seven("b") + "]", 17}, {seven("a") + "|" + seven("b") + "|*", 18}, {seven("a") + "|" + seven("b") + "|(c", 20}, {"(" + seven("a") + "|" + seven("b") + "|?", 19},
		{"(" + long(400) + "]*", 90}, {long(400) + "|*", 90}, {deep(14) + "b]", 58},
	} {
		fails(t, x.s, x.at, api.ErrParse)
	}
}

// The grammar's signs and classes, whole and cut off.
const (
	escape   = `\\(?:[\\|*+?()\[\]^.\-]|x[0-9a-f]{2})`
	bare     = `[ -',/-9:->@-Z_-{}~]`
	part     = `(` + escape + `|` + bare + `)(?:-(` + escape + `|` + bare + `))?`
	cut      = `(?:\\(?:x[0-9a-f]?)?)?`
	classCut = `^\[\^?(?:` + part + `)*(?:(?:` + escape + `|` + bare + `)-)?` + cut
)

// longest is a pattern that takes as much as it can.
func longest(s string) *regexp.Regexp {
	r := regexp.MustCompile(s)
	r.Longest()
	return r
}

var (
	aSign      = longest(`^(?:` + escape + `|` + bare + `|[\^-])`)
	aClass     = longest(`^\[\^?(?:` + part + `)*\]`)
	aPart      = longest(part)
	signStart  = longest(`^` + cut)
	classStart = longest(classCut)
)

// valueOf is the byte of a sign.
func valueOf(sign string) byte {
	if strings.HasPrefix(sign, `\x`) {
		var n byte
		fmt.Sscanf(sign[2:], "%02x", &n)
		return n
	}
	return sign[len(sign)-1]
}

// signOf takes a sign or a class from the beginning of s: its set and how long it is, or the place of an error.
func signOf(s string) (set api.Set, n, bad int) {
	if s[0] != '[' {
		if sign := aSign.FindString(s); sign != "" {
			return byteset.Of([]byte{valueOf(sign)}), len(sign), -1
		}
		return set, 0, len(signStart.FindString(s))
	}
	text := aClass.FindString(s)
	start := text
	if text == "" {
		start = classStart.FindString(s)
	}
	for _, m := range aPart.FindAllStringSubmatchIndex(start, -1) {
		from := valueOf(start[m[2]:m[3]])
		to := from
		if m[4] >= 0 {
			to = valueOf(start[m[4]:m[5]])
		}
		if to < from {
			return set, 0, m[4]
		}
		set = byteset.Or(set, byteset.Range(from, to))
	}
	if text == "" {
		return set, 0, len(start)
	}
	if strings.HasPrefix(text, "[^") {
		set = byteset.Not(set)
	}
	return set, len(text), -1
}

// level is what is read within a parenthesis that is open.
type level struct{ cats, reps []api.Rx }

// closed ends a level's last cat, and all of it if whole is told.
func (l *level) closed(whole bool) (r api.Rx, ok bool) {
	r = rx.Cat(l.reps...)
	l.cats, l.reps = append(l.cats, r), nil
	if rx.May(r) == api.OK && whole {
		r = rx.Alt(l.cats...)
	}
	return r, rx.May(r) == api.OK
}

// repeated puts what a sign of repetition makes of the last rep in its place.
func (l *level) repeated(sign byte) bool {
	r := &l.reps[len(l.reps)-1]
	switch sign {
	case '*':
		*r = rx.Star(*r)
	case '+':
		*r = some(*r)
	case '?':
		*r = maybe(*r)
	}
	return rx.May(*r) == api.OK
}

// reference is P6.1 by a heap of open levels, and by the library's patterns for signs and classes.
func reference(s string) (r api.Rx, at int, e api.Errno) {
	if len(s) > 200 {
		return r, 0, api.ErrLimit
	}
	open := []*level{{}}
	for i := 0; ; i++ {
		top := open[len(open)-1]
		if i == len(s) || s[i] == ')' {
			all, ok := top.closed(true)
			switch {
			case !ok:
				return r, 0, api.ErrLimit
			case i == len(s) && len(open) == 1:
				return all, 0, api.OK
			case i == len(s) || len(open) == 1:
				return r, i, api.ErrParse
			}
			open = open[:len(open)-1]
			top = open[len(open)-1]
			top.reps = append(top.reps, all)
			continue
		}
		switch s[i] {
		case '|':
			if _, ok := top.closed(false); !ok {
				return r, 0, api.ErrLimit
			}
		case '(':
			if len(open) > 30 {
				return r, 0, api.ErrLimit
			}
			open = append(open, &level{})
		case '*', '+', '?':
			if len(top.reps) == 0 {
				return r, i, api.ErrParse
			}
			if !top.repeated(s[i]) {
				return r, 0, api.ErrLimit
			}
		case '.':
			top.reps = append(top.reps, every)
		default:
			set, n, bad := signOf(s[i:])
			if bad >= 0 {
				return r, i + bad, api.ErrParse
			}
			top.reps = append(top.reps, rx.Bytes(set))
			i += n - 1
		}
	}
}

// agrees tells of a text of which the reference answers something else.
func agrees(t *testing.T, s string) api.Errno {
	t.Helper()
	r, at, e := reference(s)
	if e == api.OK {
		reads(t, s, r)
	} else {
		fails(t, s, at, e)
	}
	return e
}

// texts calls f with every text of at most most of these bytes.
func texts(bytes string, most int, f func(s string)) {
	var from func(s string)
	from = func(s string) {
		f(s)
		if len(s) < most {
			for i := range len(bytes) {
				from(s + bytes[i:i+1])
			}
		}
	}
	from("")
}

// P6.1: every short text, of the forms and of classes.
func TestShortTexts(t *testing.T) {
	texts("ab|*+?().[]", 5, func(s string) { agrees(t, s) })
	texts(`a|*()[]^-\x0`, 4, func(s string) { agrees(t, s) })
	texts(`ab^-]\`, 5, func(s string) { agrees(t, "["+s); agrees(t, "(["+s+"])") })
	texts(`ax0F\]-`, 4, func(s string) { agrees(t, `\x`+s); agrees(t, `[\`+s+"]"); agrees(t, `[a-\`+s+"]") })
}

// P6.1: a place of an error is where no bytes whatever would help: all bytes ahead of it begin some expression.
func TestPlaceIsTheFirst(t *testing.T) {
	texts(`a|*()[]^-\x0`, 4, func(s string) {
		_, at, e := Parse(s)
		if e != api.ErrParse {
			return
		}
		if !begins(s[:at]) {
			t.Errorf("%q: nothing begins with %q", s, s[:at])
		}
		// The second sign of a range isn't refused for its first byte.
		if at < len(s) && !strings.Contains(s[:at], "-") && begins(s[:at+1]) {
			t.Errorf("%q: something begins with %q", s, s[:at+1])
		}
	})
}

// begins tells whether some text that begins with s is read.
func begins(s string) bool {
	for _, sign := range []string{"", "~", `\`, "0", "00", "f", "ff", "xff"} {
		for _, class := range []string{"", "]"} {
			for n := range strings.Count(s, "(") + 1 {
				if _, _, e := reference(s + sign + class + strings.Repeat(")", n)); e == api.OK {
					return true
				}
			}
		}
	}
	return false
}

// pick returns one of l.
func pick(numbers *rand.Rand, l ...string) string { return l[numbers.Intn(len(l))] }

// grow makes a text of about size forms.
func grow(numbers *rand.Rand, size int) string {
	if size < 2 {
		return pick(numbers, "a", "b", "c", "a", ".", "[]", "()", "[a-c]", "[^ab]", `\x00`, `\-`, `[\^-z]`, "^", " ")
	}
	left := 1 + numbers.Intn(size-1)
	switch numbers.Intn(8) {
	case 0, 1, 2:
		return grow(numbers, left) + grow(numbers, size-left)
	case 3:
		return grow(numbers, left) + "|" + grow(numbers, size-left)
	case 4:
		return grow(numbers, size-1) + pick(numbers, "*", "+", "++", "?", "*?")
	default:
		return "(" + grow(numbers, size-1) + ")" + pick(numbers, "", "*", "+", "+++", "?")
	}
}

// spoil changes a text at a place.
func spoil(numbers *rand.Rand, s string) string {
	at := numbers.Intn(len(s) + 1)
	switch numbers.Intn(4) {
	case 0:
		return s[:at]
	case 1:
		return s[at:]
	case 2:
		return s[:at] + pick(numbers, "(", ")", "[", "]", "|", "*", "-", "^", `\`, "x", "\x00", "\xff", "[b-a]", strings.Repeat("(", 25)) + s[at:]
	}
	return s[:at] + s[min(at+1, len(s)):]
}

// P6.1: texts of all sizes, as they are and spoilt. Each of the answers comes often.
func TestLongTexts(t *testing.T) {
	numbers := rand.New(rand.NewSource(6))
	seen := map[api.Errno]int{}
	for range 4000 {
		s := grow(numbers, 1+numbers.Intn(60))
		seen[agrees(t, s)]++
		for range 2 {
			s = spoil(numbers, s)
			seen[agrees(t, s)]++
		}
	}
	for _, e := range []api.Errno{api.OK, api.ErrParse, api.ErrLimit} {
		if seen[e] < 1000 {
			t.Errorf("%d: only %d times: %v", e, seen[e], seen)
		}
	}
}

// signText is the sign of a byte in P7.1.
func signText(n byte) string {
	switch {
	case strings.IndexByte(`\|*+?()[]^-.`, n) >= 0:
		return `\` + string(rune(n))
	case n >= 32 && n <= 126:
		return string(rune(n))
	}
	return fmt.Sprintf(`\x%02x`, n)
}

// setText is the text of a set in P7.1.
func setText(s api.Set) string {
	l := byteset.List(s)
	switch len(l) {
	case 256:
		return "."
	case 1:
		return signText(l[0])
	}
	text := "["
	for i, j := 0, 0; i < len(l); i = j {
		for j = i + 1; j < len(l) && l[j] == l[j-1]+1; j++ {
		}
		text += signText(l[i])
		if j > i+2 {
			text += "-"
		}
		if j > i+1 {
			text += signText(l[j-1])
		}
	}
	return text + "]"
}

// text is P7.1's text of an expression.
func text(r api.Rx) string {
	switch r.Kind {
	case api.RxNone:
		return "[]"
	case api.RxEmpty:
		return "()"
	case api.RxSet:
		return setText(r.Set)
	case api.RxStar:
		return bracketedText(r.Args[0], r.Args[0].Kind == api.RxCat || r.Args[0].Kind == api.RxAlt) + "*"
	}
	var parts []string
	for _, x := range r.Args {
		switch {
		case r.Kind == api.RxAlt && x.Kind == api.RxEmpty:
			parts = append(parts, "")
		default:
			parts = append(parts, bracketedText(x, r.Kind == api.RxCat && x.Kind == api.RxAlt))
		}
	}
	if r.Kind == api.RxAlt {
		return strings.Join(parts, "|")
	}
	return strings.Join(parts, "")
}

// bracketedText is the text of an expression, in parentheses or not.
func bracketedText(r api.Rx, brackets bool) string {
	if brackets {
		return "(" + text(r) + ")"
	}
	return text(r)
}

// What follows: the text of an expression that the constructors make is read as the same expression.
func TestShown(t *testing.T) {
	numbers := rand.New(rand.NewSource(7))
	l := []api.Rx{none, empty, a, b, c, every, one(`\|*+?()[]^-.`), one("\x00\xff"), not("^"), one("ab"), span(0, 31), span('+', '.'), span('Z', '^')}
	read := 0
	for range 10000 {
		x, y, z := l[numbers.Intn(len(l))], l[numbers.Intn(len(l))], l[numbers.Intn(len(l))]
		r := [...]api.Rx{rx.Cat(x, y), rx.Cat(x, y, z), rx.Alt(x, y), rx.Alt(x, y, z), maybe(x), some(x), rx.Star(x)}[numbers.Intn(7)]
		s := text(r)
		got, at, e := Parse(s)
		if e == api.OK && tell(got) != tell(r) || e == api.ErrParse || at != 0 {
			t.Fatalf("%q: error %d at %d, %s, not %s", s, e, at, tell(got), tell(r))
		}
		if e == api.OK {
			read++
			l = append(l, r)
		}
	}
	if read < 2000 {
		t.Errorf("only %d of them are read", read)
	}
}

// lists calls f with each list of r.
func lists(r api.Rx, f func(l []api.Rx)) {
	if r.Args != nil {
		f(r.Args)
	}
	for _, x := range r.Args {
		lists(x, f)
	}
}

// R3: an answer shares no list with another one, nor two lists of one answer.
func TestNewMemory(t *testing.T) {
	for _, s := range []string{"ab++", "(ab|cd*)+?", "(a(bc)?)+|(bc)+", "((ab)+|(ab)+)+", deep(5), long(350)} {
		r, _, _ := Parse(s)
		other, _, _ := Parse(s)
		was := tell(r)
		first := map[*api.Rx]bool{}
		for _, x := range []api.Rx{r, other} {
			lists(x, func(l []api.Rx) {
				if len(l) > 0 && first[&l[0]] {
					t.Errorf("%q: two lists are one", s)
				}
				if len(l) > 0 {
					first[&l[0]] = true
				}
				for l := l[:len(l):cap(l)]; len(l) < cap(l); {
					l = append(l, every)
				}
			})
		}
		lists(other, func(l []api.Rx) { clear(l) })
		if tell(r) != was {
			t.Errorf("%q: lists share their room", s)
		}
	}
}

// R4: what is asked before changes nothing.
func TestSameAgain(t *testing.T) {
	for _, s := range []string{"(a|b", "a+", strings.Repeat("(", 31), "(([b-a]", nest(30, "a")} {
		want := agrees(t, s)
		if again := agrees(t, s); again != want {
			t.Errorf("%q: %d, and then %d", s, want, again)
		}
	}
}
