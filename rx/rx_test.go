package rx

import (
	"fmt"
	"slices"
	"strings"
	"testing"

	"scriptory/api"
	"scriptory/byteset"
)

// node makes an expression as it is said, plain or not.
func node(kind int, args ...api.Rx) api.Rx { return api.Rx{Kind: kind, Args: args} }

// one is the expression of one byte of s.
func one(s string) api.Rx { return api.Rx{Kind: api.RxSet, Set: byteset.Of([]byte(s))} }

// some has the expressions of which the tests are made.
var (
	none  = node(api.RxNone)
	empty = node(api.RxEmpty)
	a     = one("a")
	b     = one("b")
	c     = one("c")
	ab    = node(api.RxCat, one("a"), one("b"))
	ba    = node(api.RxCat, one("b"), one("a"))
	many  = node(api.RxStar, one("a"))
	maybe = node(api.RxAlt, node(api.RxEmpty), one("a"))
)

// tell writes all of an expression, so that two texts are the same where the expressions are.
func tell(r api.Rx) string {
	var s strings.Builder
	fmt.Fprintf(&s, "%d", r.Kind)
	if r.Set != (api.Set{}) {
		fmt.Fprintf(&s, "%x", r.Set)
	}
	if len(r.Args) > 0 {
		s.WriteString("(")
		for _, x := range r.Args {
			s.WriteString(tell(x) + " ")
		}
		s.WriteString(")")
	}
	return s.String()
}

// same tells of a difference between two expressions.
func same(t *testing.T, what string, got, want api.Rx) {
	t.Helper()
	if tell(got) != tell(want) {
		t.Errorf("%s: %s, not %s", what, tell(got), tell(want))
	}
}

// order is P5.2's Compare, said step by step.
func order(x, y api.Rx) int {
	if x.Kind != y.Kind {
		return sign(x.Kind < y.Kind)
	}
	if x.Kind == api.RxSet {
		for n := range 256 {
			if in := byteset.Has(x.Set, byte(n)); in != byteset.Has(y.Set, byte(n)) {
				return sign(in)
			}
		}
	}
	for i := 0; i < len(x.Args) && i < len(y.Args); i++ {
		if o := order(x.Args[i], y.Args[i]); o != 0 {
			return o
		}
	}
	if len(x.Args) != len(y.Args) {
		return sign(len(x.Args) < len(y.Args))
	}
	return 0
}

// sign is -1 for less, and 1 else.
func sign(less bool) int {
	if less {
		return -1
	}
	return 1
}

// isPlain is the chapter's definition, sentence by sentence.
func isPlain(r api.Rx) bool {
	has := func(kind int) (n int) {
		for _, x := range r.Args {
			if x.Kind == kind {
				n++
			}
		}
		return n
	}
	ok := false
	switch r.Kind {
	case api.RxNone, api.RxEmpty:
		ok = len(r.Args) == 0
	case api.RxSet:
		ok = len(r.Args) == 0 && byteset.Len(r.Set) > 0
	case api.RxCat:
		ok = len(r.Args) > 1 && has(api.RxCat)+has(api.RxNone)+has(api.RxEmpty) == 0
	case api.RxAlt:
		ok = len(r.Args) > 1 && has(api.RxAlt)+has(api.RxNone) == 0 && has(api.RxSet) < 2
		for i := 1; i < len(r.Args); i++ {
			ok = ok && order(r.Args[i-1], r.Args[i]) < 0
		}
	case api.RxStar:
		ok = len(r.Args) == 1 && has(api.RxStar)+has(api.RxNone)+has(api.RxEmpty) == 0
	}
	for _, x := range r.Args {
		ok = ok && isPlain(x)
	}
	return ok && (r.Kind == api.RxSet || r.Set == api.Set{})
}

// catOf is P5.1's Cat of plain expressions.
func catOf(l []api.Rx) api.Rx {
	var parts []api.Rx
	for _, r := range l {
		switch r.Kind {
		case api.RxNone:
			return none
		case api.RxCat:
			parts = append(parts, r.Args...)
		case api.RxEmpty:
		default:
			parts = append(parts, r)
		}
	}
	return wrap(api.RxCat, parts, empty)
}

// altOf is P5.1's Alt of plain expressions: each one is put at its place.
func altOf(l []api.Rx) api.Rx {
	var set api.Set
	var parts []api.Rx
	put := func(r api.Rx) {
		at := 0
		for at < len(parts) && order(parts[at], r) < 0 {
			at++
		}
		if at == len(parts) || order(parts[at], r) != 0 {
			parts = slices.Insert(parts, at, r)
		}
	}
	for _, r := range l {
		each := []api.Rx{r}
		if r.Kind == api.RxAlt {
			each = r.Args
		}
		for _, x := range each {
			switch x.Kind {
			case api.RxNone:
			case api.RxSet:
				set = byteset.Or(set, x.Set)
			default:
				put(x)
			}
		}
	}
	if byteset.Len(set) > 0 {
		put(api.Rx{Kind: api.RxSet, Set: set})
	}
	return wrap(api.RxAlt, parts, none)
}

// starOf is P5.1's Star of a plain expression.
func starOf(r api.Rx) api.Rx {
	switch {
	case r.Kind == api.RxStar:
		return r
	case r.Kind == api.RxNone || r.Kind == api.RxEmpty:
		return empty
	case r.Kind == api.RxAlt && r.Args[0].Kind == api.RxEmpty:
		// Kinds are in order, so the empty word stands first.
		return starOf(altOf(r.Args[1:]))
	}
	return node(api.RxStar, r)
}

// wrap is the expression of these parts: one alone stands for itself.
func wrap(kind int, parts []api.Rx, nothing api.Rx) api.Rx {
	if len(parts) == 0 {
		return nothing
	}
	if len(parts) == 1 {
		return parts[0]
	}
	return node(kind, parts...)
}

// mixer gives numbers that seem to have no order, the same ones in each run.
type mixer uint64

func (m *mixer) next(n int) int {
	*m = *m*6364136223846793005 + 1442695040888963407
	return int(uint64(*m>>33) % uint64(n))
}

// grown returns n plain expressions, each of earlier ones, by the chapter's words alone.
func grown(n int, seed uint64) []api.Rx {
	numbers := mixer(seed)
	l := []api.Rx{none, empty, a, b, c, one("ab"), one("\x00\xff"), {Kind: api.RxSet, Set: byteset.Range(0, 255)}, ab, ba, many, maybe}
	for len(l) < n {
		var parts []api.Rx
		for range numbers.next(4) {
			parts = append(parts, l[numbers.next(len(l))])
		}
		r := starOf(l[numbers.next(len(l))])
		switch numbers.next(5) {
		case 0, 1:
			r = catOf(parts)
		case 2, 3:
			r = altOf(parts)
		}
		if len(tell(r)) < 3000 {
			l = append(l, r)
		}
	}
	return l
}

// odd has expressions that are not plain.
func odd() []api.Rx {
	withSet := func(r api.Rx) api.Rx {
		r.Set = byteset.Of([]byte("q"))
		return r
	}
	return []api.Rx{
		{}, node(7), node(-1), node(7, a), node(0, a, b), node(1<<62, none), node(-1<<62, empty, none), withSet(node(9)),
		node(api.RxNone, a), node(api.RxNone, a, b), withSet(none), node(api.RxEmpty, a), node(api.RxEmpty, empty, empty), withSet(empty),
		node(api.RxSet), node(api.RxSet, a), {Kind: api.RxSet, Set: a.Set, Args: []api.Rx{a}}, {Kind: api.RxSet, Set: a.Set, Args: []api.Rx{empty}},
		node(api.RxCat), node(api.RxCat, a), node(api.RxCat, ab, c), node(api.RxCat, c, ab), node(api.RxCat, a, none), node(api.RxCat, none, a),
		node(api.RxCat, a, empty), node(api.RxCat, empty, a), node(api.RxCat, a, node(api.RxSet)), node(api.RxCat, a, node(8)), withSet(ab),
		node(api.RxAlt), node(api.RxAlt, a), node(api.RxAlt, a, b), node(api.RxAlt, a, a), node(api.RxAlt, ab, a), node(api.RxAlt, ab, ab), node(api.RxAlt, ba, ab),
		node(api.RxAlt, a, empty), node(api.RxAlt, none, a), node(api.RxAlt, a, maybe), node(api.RxAlt, maybe, ab), node(api.RxAlt, many, ab), withSet(maybe),
		node(api.RxAlt, empty, empty), node(api.RxAlt, empty, a, b), node(api.RxAlt, a, node(7)), node(api.RxAlt, empty, node(api.RxSet)), node(api.RxAlt, none, none),
		node(api.RxAlt, empty, node(api.RxAlt, empty, node(api.RxAlt, empty, a))), node(api.RxAlt, node(api.RxAlt, node(api.RxAlt))),
		node(api.RxStar), node(api.RxStar, a, b), node(api.RxStar, many), node(api.RxStar, empty), node(api.RxStar, none), withSet(many), node(api.RxStar, node(api.RxSet)),
		node(api.RxStar, node(api.RxAlt, b, a)), node(api.RxStar, withSet(empty)), node(api.RxCat, a, node(api.RxStar, node(api.RxCat, b, node(api.RxAlt, ab, a)))),
	}
}

// P5.1: the expressions without parts, the empty set too.
func TestWithoutParts(t *testing.T) {
	same(t, "None", None(), api.Rx{Kind: 1})
	same(t, "Empty", Empty(), api.Rx{Kind: 2})
	same(t, "Bytes of none", Bytes(api.Set{}), none)
	for _, s := range []api.Set{{1}, {0, 0, 0, 1 << 63}, a.Set, byteset.Range('a', 'z'), byteset.Range(0, 255)} {
		same(t, "Bytes", Bytes(s), api.Rx{Kind: 3, Set: s})
	}
}

// P5.1: Cat of none, of one, of several; what is taken apart, what is taken away, what makes all of it none.
func TestCat(t *testing.T) {
	abc := node(api.RxCat, a, b, c)
	for what, x := range map[string]struct {
		l    []api.Rx
		want api.Rx
	}{
		"nothing":               {nil, empty},
		"an empty list":         {[]api.Rx{}, empty},
		"one":                   {[]api.Rx{a}, a},
		"one cat":               {[]api.Rx{ab}, ab},
		"one alt":               {[]api.Rx{maybe}, maybe},
		"one star":              {[]api.Rx{many}, many},
		"two":                   {[]api.Rx{a, b}, ab},
		"the same twice":        {[]api.Rx{a, a}, node(api.RxCat, a, a)},
		"out of order":          {[]api.Rx{b, a}, ba},
		"a cat ahead":           {[]api.Rx{ab, c}, abc},
		"a cat behind":          {[]api.Rx{a, node(api.RxCat, b, c)}, abc},
		"cats":                  {[]api.Rx{ab, ba, ab}, node(api.RxCat, a, b, b, a, a, b)},
		"an alt and a star":     {[]api.Rx{maybe, many}, node(api.RxCat, maybe, many)},
		"an empty":              {[]api.Rx{empty}, empty},
		"empties":               {[]api.Rx{empty, empty, empty}, empty},
		"one among empties":     {[]api.Rx{empty, a, empty}, a},
		"a cat among empties":   {[]api.Rx{empty, ab, empty}, ab},
		"several among empties": {[]api.Rx{empty, a, empty, b, empty, c, empty}, abc},
		"a none":                {[]api.Rx{none}, none},
		"a none ahead":          {[]api.Rx{none, a}, none},
		"a none behind":         {[]api.Rx{ab, c, none}, none},
		"a none and an empty":   {[]api.Rx{empty, none, empty}, none},
	} {
		same(t, "Cat of "+what, Cat(x.l...), x.want)
	}
}

// P5.1: Alt of none, of one, of several; sets as one, order, duplicates, what is taken apart and away.
func TestAlt(t *testing.T) {
	for what, x := range map[string]struct {
		l    []api.Rx
		want api.Rx
	}{
		"nothing":                    {nil, none},
		"an empty list":              {[]api.Rx{}, none},
		"one":                        {[]api.Rx{a}, a},
		"one cat":                    {[]api.Rx{ab}, ab},
		"one alt":                    {[]api.Rx{maybe}, maybe},
		"one empty":                  {[]api.Rx{empty}, empty},
		"the chapter's":              {[]api.Rx{a, b, a}, one("ab")},
		"all bytes, of two":          {[]api.Rx{Bytes(byteset.Range(128, 255)), Bytes(byteset.Range(0, 200))}, Bytes(byteset.Range(0, 255))},
		"a none":                     {[]api.Rx{none}, none},
		"nones":                      {[]api.Rx{none, none}, none},
		"one among nones":            {[]api.Rx{none, ab, none}, ab},
		"an empty behind":            {[]api.Rx{a, empty}, maybe},
		"empties":                    {[]api.Rx{empty, empty}, empty},
		"the same":                   {[]api.Rx{ab, ab, ab}, ab},
		"the same, apart":            {[]api.Rx{ab, many, ab, many}, node(api.RxAlt, ab, many)},
		"all kinds, turned":          {[]api.Rx{many, ba, ab, c, none, empty}, node(api.RxAlt, empty, c, ab, ba, many)},
		"an alt among others":        {[]api.Rx{ab, maybe, b}, node(api.RxAlt, empty, one("ab"), ab)},
		"alts":                       {[]api.Rx{node(api.RxAlt, b, ab), maybe, node(api.RxAlt, ab, many)}, node(api.RxAlt, empty, one("ab"), ab, many)},
		"an alt of what is there":    {[]api.Rx{maybe, a, empty, maybe}, maybe},
		"a longer cat":               {[]api.Rx{node(api.RxCat, a, b, a), ab}, node(api.RxAlt, ab, node(api.RxCat, a, b, a))},
		"an alt within a cat stays":  {[]api.Rx{node(api.RxCat, maybe, b), a}, node(api.RxAlt, a, node(api.RxCat, maybe, b))},
		"an alt within a star stays": {[]api.Rx{node(api.RxStar, node(api.RxAlt, a, ab)), b}, node(api.RxAlt, b, node(api.RxStar, node(api.RxAlt, a, ab)))},
	} {
		same(t, "Alt of "+what, Alt(x.l...), x.want)
	}
}

// P5.1: Star of each kind, of choices with the empty word and what is left of them.
func TestStar(t *testing.T) {
	both := node(api.RxAlt, a, ab)
	for what, x := range map[string]struct{ r, want api.Rx }{
		"none":                             {none, empty},
		"empty":                            {empty, empty},
		"a set":                            {a, many},
		"a cat":                            {ab, node(api.RxStar, ab)},
		"a star":                           {many, many},
		"an alt":                           {both, node(api.RxStar, both)},
		"an alt of empty and one":          {maybe, many},
		"an alt of empty and two":          {node(api.RxAlt, empty, a, ab), node(api.RxStar, both)},
		"an alt of empty and a star":       {node(api.RxAlt, empty, many), many},
		"an alt with a star":               {node(api.RxAlt, a, many), node(api.RxStar, node(api.RxAlt, a, many))},
		"a cat with an alt of empty":       {node(api.RxCat, maybe, b), node(api.RxStar, node(api.RxCat, maybe, b))},
		"an alt of empty and three others": {node(api.RxAlt, empty, a, ab, many), node(api.RxStar, node(api.RxAlt, a, ab, many))},
	} {
		same(t, "Star of "+what, Star(x.r), x.want)
	}
}

// P5.1: of plain expressions of every sort the constructors return the plain ones that the chapter says.
func TestConstructors(t *testing.T) {
	l := grown(400, 3)
	numbers := mixer(11)
	for i, r := range l {
		if !isPlain(r) {
			t.Fatalf("not plain: %s", tell(r))
		}
		same(t, "Star of "+tell(r), Star(r), starOf(r))
		if !isPlain(Star(r)) {
			t.Fatalf("Star of %s is not plain", tell(r))
		}
		for range 40 {
			parts := []api.Rx{r}
			for range numbers.next(5) {
				parts = slices.Insert(parts, numbers.next(len(parts)+1), l[numbers.next(len(l))])
			}
			x, y := Cat(parts...), Alt(parts...)
			if tell(x) != tell(catOf(parts)) || tell(y) != tell(altOf(parts)) || !isPlain(x) || !isPlain(y) {
				t.Fatalf("of %d parts with %d: %s and %s", len(parts), i, tell(x), tell(y))
			}
		}
	}
	for _, x := range l[:40] {
		for _, y := range l[:40] {
			same(t, "Cat of two", Cat(x, y), catOf([]api.Rx{x, y}))
			same(t, "Alt of two", Alt(x, y), altOf([]api.Rx{x, y}))
		}
	}
}

// What follows: alternatives have one order, however they are given.
func TestOneOrder(t *testing.T) {
	l := grown(200, 5)
	numbers := mixer(2)
	for range 300 {
		var parts []api.Rx
		for range 2 + numbers.next(8) {
			parts = append(parts, l[numbers.next(len(l))])
		}
		want := tell(Alt(parts...))
		for range 5 {
			i, j := numbers.next(len(parts)), numbers.next(len(parts))
			parts[i], parts[j] = parts[j], parts[i]
			if got := tell(Alt(parts...)); got != want {
				t.Fatalf("%s and %s", got, want)
			}
		}
		split := numbers.next(len(parts))
		if got := tell(Alt(Alt(parts[split:]...), Alt(parts[:split]...))); got != want {
			t.Fatalf("in two steps: %s, not %s", got, want)
		}
	}
}

// P5.2: the order, rule by rule, for plain expressions and others.
func TestCompare(t *testing.T) {
	for what, x := range map[string]struct {
		x, y api.Rx
		want int
	}{
		"nones":                          {none, none, 0},
		"kinds":                          {none, empty, -1},
		"kinds ahead of parts":           {node(api.RxCat, many, many), node(api.RxAlt, empty, a), -1},
		"kinds ahead of sets":            {a, ab, -1},
		"kinds below all":                {node(-5), none, -1},
		"kinds far apart":                {node(-1 << 63), node(1<<63 - 1), -1},
		"equal sets":                     {one("xyz"), one("zyx"), 0},
		"sets":                           {a, b, -1},
		"a set within another":           {one("ab"), a, -1},
		"a set and the empty one":        {one("\xff"), node(api.RxSet), -1},
		"sets ahead of parts":            {api.Rx{Kind: 3, Set: a.Set, Args: []api.Rx{many}}, api.Rx{Kind: 3, Set: b.Set, Args: []api.Rx{none}}, -1},
		"parts of sets":                  {api.Rx{Kind: 3, Set: a.Set, Args: []api.Rx{none}}, api.Rx{Kind: 3, Set: a.Set, Args: []api.Rx{many}}, -1},
		"a set with parts":               {a, api.Rx{Kind: 3, Set: a.Set, Args: []api.Rx{none}}, -1},
		"the sets of no sets":            {api.Rx{Kind: 2, Set: a.Set}, api.Rx{Kind: 2, Set: b.Set}, 0},
		"the set of an unknown kind":     {api.Rx{Kind: 8, Set: a.Set}, api.Rx{Kind: 8}, 0},
		"parts":                          {ab, ba, -1},
		"second parts":                   {ab, node(api.RxCat, a, c), -1},
		"parts ahead of how many":        {node(api.RxCat, a, b, c), node(api.RxCat, a, c), -1},
		"fewer parts":                    {ab, node(api.RxCat, a, b, none), -1},
		"no parts":                       {node(api.RxAlt), node(api.RxAlt, none), -1},
		"parts of nones":                 {node(api.RxNone), node(api.RxNone, none), -1},
		"stars":                          {node(api.RxStar, a), node(api.RxStar, ab), -1},
		"parts of parts":                 {node(api.RxCat, many, node(api.RxAlt, empty, a)), node(api.RxCat, many, node(api.RxAlt, empty, b)), -1},
		"parts of parts, how many":       {node(api.RxStar, node(api.RxCat, a, b)), node(api.RxStar, node(api.RxCat, a, b, c)), -1},
		"the same of parts":              {node(api.RxCat, many, maybe), node(api.RxCat, many, maybe), 0},
		"an empty list and none of them": {api.Rx{Kind: 4, Args: []api.Rx{}}, api.Rx{Kind: 4}, 0},
	} {
		if got := Compare(x.x, x.y); got != x.want || Equal(x.x, x.y) != (x.want == 0) {
			t.Errorf("%s: %d, %t", what, got, Equal(x.x, x.y))
		}
		if got := Compare(x.y, x.x); got != -x.want || Equal(x.y, x.x) != (x.want == 0) {
			t.Errorf("%s, turned: %d, %t", what, got, Equal(x.y, x.x))
		}
	}
}

// P5.2: every two of many expressions, plain ones and others.
func TestCompareOfAll(t *testing.T) {
	l := append(grown(250, 9), odd()...)
	for _, x := range l {
		for _, y := range l {
			if got, want := Compare(x, y), order(x, y); got != want || Equal(x, y) != (want == 0) {
				t.Fatalf("%s and %s: %d, %t", tell(x), tell(y), got, Equal(x, y))
			}
		}
	}
}

// nested is n levels of a kind around r.
func nested(kind, n int, r api.Rx) api.Rx {
	for range n {
		r = node(kind, r)
	}
	return r
}

// tower is a plain expression of n levels, n odd: a* within cats within stars.
func tower(n int) api.Rx {
	r := a
	for level := 2; level <= n; level++ {
		r = node(api.RxCat, b, r)
		if level%2 == 0 {
			r = node(api.RxStar, r.Args[1])
		}
	}
	return r
}

// row is a plain expression of n nodes, n at least 3.
func row(n int) api.Rx { return node(api.RxCat, slices.Repeat([]api.Rx{a}, n-1)...) }

// P5.2: levels and nodes of plain expressions and others.
func TestDepthAndNodes(t *testing.T) {
	for what, x := range map[string]struct {
		r            api.Rx
		depth, nodes int
	}{
		"none":             {none, 1, 1},
		"nothing at all":   {api.Rx{}, 1, 1},
		"a set":            {one("abc"), 1, 1},
		"a cat":            {ab, 2, 3},
		"a star":           {many, 2, 2},
		"an empty list":    {api.Rx{Kind: 4, Args: []api.Rx{}}, 1, 1},
		"deepest first":    {node(api.RxCat, node(api.RxStar, ab), a, many), 4, 8},
		"deepest last":     {node(api.RxAlt, a, ab, node(api.RxStar, ba)), 4, 9},
		"deepest between":  {node(api.RxCat, a, node(api.RxStar, node(api.RxCat, a, many)), b), 5, 8},
		"parts of no kind": {node(7, node(9, none), none), 3, 4},
		"parts of a set":   {node(api.RxSet, none, node(api.RxNone, none)), 3, 4},
		"a tower":          {tower(31), 31, 46},
		"a row":            {row(401), 2, 401},
		"a long row":       {row(1 << 20), 2, 1 << 20},
		"many levels":      {nested(api.RxStar, 1<<16-1, a), 1 << 16, 1 << 16},
	} {
		if d, n := Depth(x.r), Nodes(x.r); d != x.depth || n != x.nodes {
			t.Errorf("%s: %d and %d", what, d, n)
		}
	}
}

// P5.2: plain expressions up to the limits, those beyond them, those that are not plain, and which error is first.
func TestMay(t *testing.T) {
	inner := func(r api.Rx, levels int) api.Rx {
		for range levels {
			r = node(api.RxCat, b, node(api.RxStar, r))
		}
		return r
	}
	for what, x := range map[string]struct {
		r    api.Rx
		want api.Errno
	}{
		"the most nodes":                     {row(400), api.OK},
		"one node too many":                  {row(401), api.ErrLong},
		"two nodes too many":                 {row(402), api.ErrLong},
		"far too many nodes":                 {row(1 << 20), api.ErrLong},
		"the most levels":                    {tower(30), api.OK},
		"one level too many":                 {tower(31), api.ErrDeep},
		"far too many levels":                {tower(250), api.ErrDeep},
		"too many levels and nodes":          {tower(301), api.ErrLong},
		"levels of stars alone":              {nested(api.RxStar, 30, a), api.ErrDeep},
		"few levels of stars alone":          {nested(api.RxStar, 29, a), api.ErrForm},
		"as many nodes as may be, in levels": {nested(api.RxStar, 399, a), api.ErrDeep},
		"too many nodes in levels":           {nested(api.RxStar, 400, a), api.ErrLong},
		"nodes that are not plain":           {node(api.RxNone, slices.Repeat([]api.Rx{a}, 399)...), api.ErrForm},
		"too many that are not plain":        {node(api.RxNone, slices.Repeat([]api.Rx{a}, 400)...), api.ErrLong},
		"the last of too many":               {node(api.RxCat, slices.Repeat([]api.Rx{ab}, 134)...), api.ErrLong},
		"parts that are not plain":           {node(api.RxCat, slices.Repeat([]api.Rx{ab}, 133)...), api.ErrForm},
		"deep and plain":                     {inner(maybe, 14), api.OK},
		"deep and not plain":                 {inner(node(api.RxAlt, a, empty), 14), api.ErrForm},
		"too deep and not plain":             {inner(node(api.RxAlt, many, a), 14), api.ErrDeep},
		"an alt of empty in a star":          {node(api.RxStar, maybe), api.OK},
		"the same twice in a cat":            {node(api.RxCat, many, many), api.OK},
		"all kinds in an alt":                {node(api.RxAlt, empty, a, ab, many), api.OK},
		"a second set in an alt":             {node(api.RxAlt, empty, a, b, ab), api.ErrForm},
		"the same twice in an alt":           {node(api.RxAlt, a, many, many), api.ErrForm},
		"the last two turned":                {node(api.RxAlt, a, ba, ab), api.ErrForm},
		"what is not plain, within":          {node(api.RxCat, a, node(api.RxAlt, b, node(api.RxCat, a, node(api.RxSet)))), api.ErrForm},
	} {
		if got := May(x.r); got != x.want {
			t.Errorf("%s: %d", what, got)
		}
	}
	for _, r := range odd() {
		if got := May(r); isPlain(r) || got != api.ErrForm {
			t.Errorf("%s: %d", tell(r), got)
		}
	}
	for _, r := range grown(600, 21) {
		want := api.OK
		switch {
		case Nodes(r) > 400:
			want = api.ErrLong
		case Depth(r) > 30:
			want = api.ErrDeep
		}
		if got := May(r); got != want {
			t.Errorf("%s: %d", tell(r), got)
		}
	}
}

// P5.2: May of expressions with a fault somewhere within.
func TestMayOfFaults(t *testing.T) {
	numbers := mixer(77)
	spoil := func(r *api.Rx) {
		for len(r.Args) > 0 && numbers.next(3) > 0 {
			r = &r.Args[numbers.next(len(r.Args))]
		}
		switch numbers.next(6) {
		case 0:
			r.Kind = numbers.next(8)
		case 1:
			r.Set[numbers.next(4)] ^= 1 << numbers.next(64)
		case 2:
			r.Args = append(r.Args, a)
		case 3:
			r.Args = slices.Clone(r.Args[len(r.Args)/2:])
		case 4:
			r.Args = slices.Insert(r.Args, 0, empty)
		case 5:
			slices.Reverse(r.Args)
		}
	}
	seen := [2]int{}
	for _, r := range grown(1500, 31) {
		if Nodes(r) > 300 || Depth(r) > 25 {
			continue
		}
		x := Cat(r)
		spoil(&x)
		got, fine := May(x), isPlain(x)
		if fine && got != api.OK || !fine && got != api.ErrForm {
			t.Fatalf("%s: %d", tell(x), got)
		}
		seen[min(int(got), 1)]++
	}
	if seen[0] < 50 || seen[1] < 50 {
		t.Errorf("too few of a sort: %v", seen)
	}
}

// R1: expressions that are not plain, large or deep ones, end without a panic.
func TestOddArguments(t *testing.T) {
	l := append(odd(), a, ab, maybe)
	for _, x := range l {
		Star(x)
		for _, y := range l {
			Cat(x, y)
			Alt(x, y)
			Compare(x, y)
		}
	}
	Cat(l...)
	Alt(l...)
	for _, kind := range []int{api.RxNone, api.RxSet, api.RxCat, api.RxAlt, api.RxStar, 7} {
		deep := nested(kind, 1<<16-1, a)
		wide := node(kind, slices.Repeat([]api.Rx{ab, a, empty}, 1<<16)...)
		for _, r := range []api.Rx{deep, wide} {
			Cat(r, r)
			Alt(r, r)
			Star(r)
			if !Equal(r, r) || May(r) != api.ErrLong {
				t.Errorf("kind %d: %t, %d", kind, Equal(r, r), May(r))
			}
		}
	}
	chosen := a
	for range 1 << 14 {
		chosen = node(api.RxAlt, empty, chosen)
	}
	Star(chosen)
	Alt(chosen, chosen)
}

// R1: an expression that shares its parts has many nodes in few lists; it is only too long.
func TestSharedParts(t *testing.T) {
	r := a
	for range 60 {
		r = node(api.RxCat, r, r)
	}
	if got := May(r); got != api.ErrLong {
		t.Errorf("shared parts: %d", got)
	}
}

// P5.1: long lists.
func TestLongLists(t *testing.T) {
	l := make([]api.Rx, 1<<17)
	for i := range l {
		l[i] = []api.Rx{ab, Bytes(byteset.Range(byte(i), byte(i))), many, empty, ba}[i%5]
	}
	same(t, "a long Alt", Alt(l...), node(api.RxAlt, empty, Bytes(byteset.Range(0, 255)), ab, ba, many))
	if r := Cat(l...); r.Kind != api.RxCat || Nodes(r) != 1+len(l)/5*7+2+1 {
		t.Errorf("a long Cat: %d, %d", r.Kind, Nodes(r))
	}
}

// spoilAll changes all lists of an expression, up to what they have room for.
func spoilAll(r api.Rx) {
	full := r.Args[:cap(r.Args)]
	for i := range full {
		spoilAll(full[i])
		full[i] = node(99)
	}
}

// R3, R4: the same call answers the same, whatever was done to an earlier answer or its arguments, and leaves its arguments, and what is behind them, as they were.
func TestAnswersAreIndependent(t *testing.T) {
	calls := []func(l []api.Rx) api.Rx{
		func(l []api.Rx) api.Rx { return Cat(l...) },
		func(l []api.Rx) api.Rx { return Alt(l...) },
		func(l []api.Rx) api.Rx { return Star(l[0]) },
		func(l []api.Rx) api.Rx { return Cat(l[0]) },
		func(l []api.Rx) api.Rx { return Alt(l[0]) },
		func(l []api.Rx) api.Rx { return Cat(l[0], l[0]) },
		func(l []api.Rx) api.Rx { return Alt(l[0], l[0]) },
	}
	fresh := func(i int) []api.Rx {
		l := grown(120, 13)
		return append([]api.Rx{l[i], l[i*7%120], l[i], maybe, node(api.RxCat, many, ba)}, one("z"), many)[:5]
	}
	for i := range 120 {
		for n, call := range calls {
			l := fresh(i)
			behind := l[:7]
			was := tell(node(0, behind...))
			first := call(l)
			if tell(node(0, behind...)) != was {
				t.Fatalf("call %d changes its arguments: %s", n, was)
			}
			told := tell(first)
			spoilAll(call(l))
			if tell(node(0, behind...)) != was || tell(first) != told || tell(call(l)) != told {
				t.Fatalf("call %d shares its answer: %s", n, told)
			}
			clear(behind)
			if tell(first) != told {
				t.Fatalf("call %d keeps its arguments: %s", n, told)
			}
		}
	}
}

// R3: no two lists of one answer are the same.
func TestListsAreApart(t *testing.T) {
	for what, r := range map[string]api.Rx{"Cat": Cat(many, many, maybe, maybe), "Star": Star(node(api.RxCat, many, many)), "Alt": Alt(node(api.RxCat, many, many), many)} {
		seen := make(map[*api.Rx]int)
		var walk func(r api.Rx)
		walk = func(r api.Rx) {
			for i := range r.Args {
				seen[&r.Args[i]]++
				if seen[&r.Args[i]] > 1 {
					t.Errorf("%s: a list twice in %s", what, tell(r))
				}
				walk(r.Args[i])
			}
		}
		walk(r)
	}
}
