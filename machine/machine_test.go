package machine

import (
	"bytes"
	"fmt"
	"maps"
	"math/rand"
	"slices"
	"strconv"
	"strings"
	"testing"

	"scriptory/api"
	"scriptory/parse"
	"scriptory/subset"
	"scriptory/thompson"
)

const (
	least    = -1 << 63
	greatest = 1<<63 - 1
)

// classes makes a Class of texts: the bytes of the first one have class 0, and so on; all others have class rest.
func classes(rest uint8, texts ...string) (class [256]uint8) {
	for b := range class {
		class[b] = rest
	}
	for c, s := range texts {
		for _, b := range []byte(s) {
			class[b] = uint8(c)
		}
	}
	return class
}

// machine makes a machine of a text for each state: a figure for each class, and * behind those of one that ends a word.
func machine(class [256]uint8, rows ...string) api.Dfa {
	d := api.Dfa{Class: class}
	for _, s := range rows {
		figures, end := strings.CutSuffix(s, "*")
		var row []int
		for _, f := range figures {
			row = append(row, int(f-'0'))
		}
		d.Next, d.Ends = append(d.Next, row), append(d.Ends, end)
	}
	return d
}

// abc has a class for a, for b and for c, and one for all other bytes.
func abc() [256]uint8 { return classes(3, "a", "b", "c") }

// eachByte has a class for each byte.
func eachByte() (class [256]uint8) {
	for b := range class {
		class[b] = uint8(b)
	}
	return class
}

// ring is a machine of n states, each of which leads to the next one by each byte, and the last one to the first. The last one ends a word.
func ring(n int, class [256]uint8) api.Dfa {
	d := api.Dfa{Class: class, Ends: make([]bool, n)}
	for s := range n {
		d.Next = append(d.Next, slices.Repeat([]int{(s + 1) % n}, 1+int(slices.Max(class[:]))))
	}
	d.Ends[n-1] = true
	return d
}

// tell writes all of a machine, so that two texts are the same where the machines are.
func tell(d api.Dfa) string {
	var s []byte
	for _, row := range d.Next {
		for _, to := range row {
			s = append(strconv.AppendInt(s, int64(to), 10), ' ')
		}
		s = append(s, '.')
	}
	return string(s) + figures(d.Ends) + fmt.Sprint(d.Class)
}

// clone is a copy of d that the program has no part in.
func clone(d api.Dfa) api.Dfa {
	next := [][]int{}
	for _, row := range d.Next {
		next = append(next, append([]int{}, row...))
	}
	return api.Dfa{Class: d.Class, Next: next, Ends: append([]bool{}, d.Ends...)}
}

// with is d with something done to a copy of it.
func with(d api.Dfa, turn func(d *api.Dfa)) api.Dfa {
	d = clone(d)
	turn(&d)
	return d
}

// figures writes a 1 for each that is true, else a 0.
func figures(l []bool) string {
	s := bytes.Repeat([]byte("0"), len(l))
	for i, x := range l {
		if x {
			s[i] = '1'
		}
	}
	return string(s)
}

// allWords is all words of at most n of these bytes.
func allWords(letters string, n int) []string {
	l := []string{""}
	for from := 0; n > 0; n-- {
		till := len(l)
		for _, w := range l[from:till] {
			for i := range len(letters) {
				l = append(l, w+letters[i:i+1])
			}
		}
		from = till
	}
	return l
}

// valid is valid machines.
func valid() map[string]api.Dfa {
	one := classes(0)
	return map[string]api.Dfa{
		"one state":                machine(one, "0"),
		"one state that ends":      machine(one, "0*"),
		"two states":               machine(one, "1", "0*"),
		"a, b and c":               machine(abc(), "0123", "3210*", "2222", "3333*"),
		"each byte":                ring(3, eachByte()),
		"byte 255 alone":           machine(classes(0, "", "\xff"), "01", "10*"),
		"byte 0 alone":             machine(classes(1, "\x00"), "01", "10*"),
		"no byte of class 0":       machine(classes(1), "10", "01*"),
		"no byte of class 1":       machine(classes(2, "a"), "012", "222", "111*"),
		"class 255 of all bytes":   ring(4, classes(255)),
		"class 255 of one byte":    ring(2, with(api.Dfa{}, func(d *api.Dfa) { d.Class['x'] = 255 }).Class),
		"2,000 states":             ring(2000, one),
		"2,000 states, each byte":  ring(2000, eachByte()),
		"rows with spare bad ones": {Class: one, Next: [][]int{[]int{0, 7}[:1], []int{1, -1}[:1], {9}}[:2], Ends: []bool{true, false, true}[:2]},
	}
}

// notValid is machines each of which has one fault.
func notValid() map[string]api.Dfa {
	ok := machine(abc(), "0123", "3210*", "2222", "3333*")
	turned := func(turn func(d *api.Dfa)) api.Dfa { return with(ok, turn) }
	l := map[string]api.Dfa{
		"nothing":                 {},
		"no states":               {Next: [][]int{}, Ends: []bool{}},
		"no states, but an end":   {Ends: []bool{true}},
		"a class of b, no states": {Class: abc()},
		"no Ends":                 turned(func(d *api.Dfa) { d.Ends = nil }),
		"an end too few":          turned(func(d *api.Dfa) { d.Ends = d.Ends[:3] }),
		"an end too many":         turned(func(d *api.Dfa) { d.Ends = append(d.Ends, true) }),
		"a state too few":         turned(func(d *api.Dfa) { d.Next = d.Next[:3] }),
		"a state, no Ends":        {Next: [][]int{{0}}},
		"a class too many":        turned(func(d *api.Dfa) { d.Class[255] = 4 }),
		"class 255":               turned(func(d *api.Dfa) { d.Class[0] = 255 }),
		"a class too few":         turned(func(d *api.Dfa) { d.Class = classes(2, "a", "b") }),
		"one class":               turned(func(d *api.Dfa) { d.Class = classes(0) }),
		"an empty row":            {Next: [][]int{{}}, Ends: []bool{true}},
		"a nil row":               {Next: [][]int{nil}, Ends: []bool{true}},
		"2,001 states":            ring(2001, classes(0)),
		"very many states":        ring(1<<16, classes(0)),
		"very many nil rows":      {Next: make([][]int, 1<<16), Ends: make([]bool, 1<<16)},
	}
	for s := range 4 {
		for name, row := range map[string][]int{
			"nil": nil, "short": {0, 1, 2}, "long": {0, 1, 2, 3, 0}, "very long": make([]int, 1<<16),
			"below": {0, -1, 0, 0}, "below, first": {-1, 0, 0, 0}, "below, last": {0, 0, 0, -1}, "far below": {0, 0, least, 0},
			"behind": {0, 0, 4, 0}, "behind, first": {4, 0, 0, 0}, "behind, last": {0, 0, 0, 4}, "far behind": {0, greatest, 0, 0},
			"at 2^32": {0, 0, 1 << 32, 0}, "as a byte": {0, 0, 256, 0},
		} {
			l[fmt.Sprintf("row %d: %s", s, name)] = turned(func(d *api.Dfa) { d.Next[s] = row })
		}
	}
	return l
}

// P11.1: what is valid.
func TestMay(t *testing.T) {
	for name, d := range valid() {
		if !May(d) {
			t.Errorf("%s: valid", name)
		}
	}
	for name, d := range notValid() {
		if May(d) {
			t.Errorf("%s: not valid", name)
		}
	}
}

// P11.1: a place of a row that no byte leads to must be a state all the same.
func TestUnusedPlaces(t *testing.T) {
	d := machine(classes(2, "a"), "012", "222", "111*")
	for s := range d.Next {
		for _, to := range []int{-1, 3, least, greatest} {
			if bad := with(d, func(d *api.Dfa) { d.Next[s][1] = to }); May(bad) || Classes(bad) != 0 {
				t.Errorf("state %d leads to %d", s, to)
			}
		}
	}
}

// P11.1: how many classes there are: the greatest one, plus 1, whether bytes have the others or not.
func TestClasses(t *testing.T) {
	machines := valid()
	for name, want := range map[string]int{
		"one state": 1, "one state that ends": 1, "two states": 1, "a, b and c": 4, "each byte": 256, "byte 255 alone": 2, "byte 0 alone": 2, "no byte of class 0": 2, "no byte of class 1": 3,
		"class 255 of all bytes": 256, "class 255 of one byte": 256, "2,000 states": 1, "2,000 states, each byte": 256, "rows with spare bad ones": 1,
	} {
		if got := Classes(machines[name]); got != want {
			t.Errorf("%s: %d classes, not %d", name, got, want)
		}
	}
	for most := range 256 {
		for _, at := range []int{0, 1, 100, 255} {
			var class [256]uint8
			class[at] = uint8(most)
			if got := Classes(ring(2, class)); got != most+1 {
				t.Errorf("class %d of byte %d: %d", most, at, got)
			}
		}
	}
}

// P11.1: what is not valid has no classes, no words and no states.
func TestNotValid(t *testing.T) {
	for name, d := range notValid() {
		if n := Classes(d); n != 0 {
			t.Errorf("%s: %d classes", name, n)
		}
		for _, w := range []string{"", "a", "z", "abc", strings.Repeat("\xff", 2000)} {
			if Run(d, []byte(w)) {
				t.Errorf("%s: Run of %.5q", name, w)
			}
			for _, s := range []int{-1, 0, 1, 2, 3, 4, 1999, 2000, least, greatest} {
				if to := To(d, s, []byte(w)); to != -1 {
					t.Errorf("%s: from %d by %.5q: %d", name, s, w, to)
				}
			}
		}
		if l := Reach(d); len(l) != 0 {
			t.Errorf("%s: Reach %.20v", name, l)
		}
		if l := Live(d); len(l) != 0 {
			t.Errorf("%s: Live %.20v", name, l)
		}
		if f := Flip(d); tell(f) != tell(api.Dfa{}) {
			t.Errorf("%s: Flip %.100s", name, tell(f))
		}
	}
}

// P11.1: where words lead, of a machine made by hand.
func TestTo(t *testing.T) {
	d := machine(abc(), "1203", "2110*", "3012", "3333*")
	for _, x := range []struct {
		from int
		w    string
		want int
	}{
		{0, "", 0}, {1, "", 1}, {2, "", 2}, {3, "", 3}, {0, "a", 1}, {0, "b", 2}, {0, "c", 0}, {0, "d", 3}, {0, "\x00", 3}, {0, "\xff", 3}, {1, "a", 2}, {1, "b", 1}, {1, "c", 1}, {1, "x", 0}, {2, "a", 3}, {2, "b", 0}, {2, "c", 1}, {2, "A", 2},
		{0, "ab", 1}, {0, "ba", 3}, {0, "aa", 2}, {0, "aab", 0}, {0, "baccc", 3}, {1, "xa", 1}, {1, "ax", 2}, {2, "cxb", 2}, {0, strings.Repeat("c", 5000) + "a", 1}, {0, strings.Repeat("aab", 1<<16), 0},
		{-1, "", -1}, {4, "", -1}, {-1, "a", -1}, {4, "a", -1}, {5, "abc", -1}, {least, "", -1}, {greatest, "a", -1}, {1 << 32, "", -1}, {256, "a", -1}, {-4, "b", -1},
	} {
		if got := To(d, x.from, []byte(x.w)); got != x.want {
			t.Errorf("from %d by %.20q: %d, not %d", x.from, x.w, got, x.want)
		}
	}
	long := ring(2000, eachByte())
	for _, s := range []int{0, 1, 999, 1998, 1999} {
		for _, n := range []int{0, 1, 2, 1999, 2000, 2001, 6007} {
			if got := To(long, s, bytes.Repeat([]byte("\x00z\xff"), n)[:n]); got != (s+n)%2000 {
				t.Errorf("2,000 states, from %d by %d bytes: %d", s, n, got)
			}
		}
	}
	if To(long, 2000, nil) != -1 {
		t.Error("no state")
	}
}

// P11.1: each byte goes by its class.
func TestEachByte(t *testing.T) {
	const states = 300
	d := api.Dfa{Class: eachByte(), Ends: make([]bool, states)}
	for s := range states {
		var row []int
		for b := range 256 {
			row = append(row, (s+b*7)%states)
		}
		d.Next = append(d.Next, row)
	}
	d.Ends[5] = true
	for _, s := range []int{0, 1, 255, 256, 299} {
		for b := range 256 {
			if got := To(d, s, []byte{byte(b)}); got != (s+b*7)%states {
				t.Fatalf("from %d by %d: %d", s, b, got)
			}
		}
	}
	for b := range 256 {
		if Run(d, []byte{byte(b)}) != (b*7%states == 5) {
			t.Errorf("Run of %d", b)
		}
	}
}

// P11.1: the words of machines made by hand, of at most three of a and b.
func TestRun(t *testing.T) {
	one, ab := classes(0), classes(2, "a", "b")
	all := "," + strings.Join(allWords("ab", 3)[1:], ",") + ","
	for i, x := range []struct {
		d     api.Dfa
		words string
	}{
		{machine(one, "0"), ""}, {machine(one, "0*"), all}, {machine(one, "1*", "1"), ","}, {machine(one, "1", "0*"), "a,b,aaa,aab,aba,abb,baa,bab,bba,bbb,"},
		{machine(ab, "122", "222*", "222"), "a,"}, {machine(ab, "012*", "222*", "222"), ",a,aa,aaa,b,ab,aab,"}, {machine(ab, "100", "100*"), "a,aa,aaa,ba,baa,bba,aba,"},
		// It starts in state 0, not in the first one that ends; and 0 isn't an end by itself.
		{machine(ab, "000", "111*"), ""}, {machine(ab, "111*", "111"), ","},
	} {
		for _, w := range allWords("ab", 3) {
			want := w == "" && strings.HasPrefix(x.words, ",") || w != "" && strings.Contains(","+x.words, ","+w+",")
			if Run(x.d, []byte(w)) != want {
				t.Errorf("%d: Run of %q: %t", i, w, !want)
			}
		}
	}
	if !Run(machine(one, "0*"), nil) || Run(machine(one, "0"), nil) {
		t.Error("the empty word")
	}
	long := ring(2000, one)
	for _, n := range []int{0, 1998, 1999, 2000, 3999, 2000*1000 - 1} {
		if Run(long, make([]byte, n)) != (n%2000 == 1999) {
			t.Errorf("2,000 states: Run of %d bytes", n)
		}
	}
}

// P11.1: what is reached, and from where an end is reached, of machines made by hand.
func TestReachAndLive(t *testing.T) {
	one, ab := classes(0), classes(2, "a", "b")
	for i, x := range []struct {
		d           api.Dfa
		reach, live string
	}{
		{machine(one, "0"), "1", "0"}, {machine(one, "0*"), "1", "1"},
		{machine(one, "1", "1*"), "11", "11"}, {machine(one, "1*", "1"), "11", "10"}, {machine(one, "0", "0*"), "10", "01"}, {machine(one, "0*", "0"), "10", "11"}, {machine(one, "0", "1*"), "10", "01"}, {machine(one, "1", "0"), "11", "00"},
		{machine(one, "2", "0*", "1"), "111", "111"}, {machine(one, "2*", "0", "2"), "101", "110"},
		{machine(ab, "122", "222*", "222"), "111", "110"}, {machine(ab, "001", "111", "222*"), "110", "001"}, {machine(ab, "003", "111*", "012", "333*"), "1001", "1111"},
		// One state behind the other, up and down.
		{machine(one, "1", "2", "3", "4", "4*"), "11111", "11111"}, {machine(one, "4", "0", "1", "2", "3*"), "11111", "11111"}, {machine(one, "0*", "0", "1", "2", "3"), "10000", "11111"}, {machine(one, "0", "2", "3", "4", "4*"), "10000", "01111"}, {machine(one, "2*", "1", "4", "1", "3"), "11111", "10000"},
		// A state that leads to itself alone, ended or not; several ends.
		{machine(ab, "012", "111", "222*"), "111", "101"}, {machine(ab, "012*", "111*", "222*"), "111", "111"},
		// No byte is of class 0; of class 1; of class 2. No word goes by these.
		{machine(classes(1), "10", "01*"), "10", "01"}, {machine(classes(1), "11*", "00"), "11", "11"}, {machine(classes(1), "10*", "01"), "10", "10"},
		{machine(classes(2, "a"), "010", "111*"), "10", "01"}, {machine(classes(2, "a"), "021", "111", "222*"), "110", "001"}, {machine(classes(2, "a"), "012", "222", "111*"), "111", "111"},
		{machine(classes(3, "a", "b"), "0020", "1111", "2222*"), "100", "001"},
	} {
		if got := figures(Reach(x.d)); got != x.reach {
			t.Errorf("%d: Reach %s, not %s", i, got, x.reach)
		}
		if got := figures(Live(x.d)); got != x.live {
			t.Errorf("%d: Live %s, not %s", i, got, x.live)
		}
	}
}

// P11.1: the only way is by a byte that may be any.
func TestReachByEachByte(t *testing.T) {
	for b := range 256 {
		d := ring(2, eachByte())
		d.Next = [][]int{make([]int, 256), slices.Repeat([]int{1}, 256)}
		d.Next[0][b] = 1
		if figures(Reach(d)) != "11" || figures(Live(d)) != "11" {
			t.Errorf("by byte %d: %s, %s", b, figures(Reach(d)), figures(Live(d)))
		}
		if d.Next[0][b] = 0; figures(Reach(d)) != "10" || figures(Live(d)) != "01" {
			t.Errorf("without byte %d: %s, %s", b, figures(Reach(d)), figures(Live(d)))
		}
	}
}

// P11.1: as many states as may be.
func TestLarge(t *testing.T) {
	all := strings.Repeat("1", 2000)
	for _, class := range [][256]uint8{classes(0), abc(), eachByte(), classes(255)} {
		d := ring(2000, class)
		if figures(Reach(d)) != all || figures(Live(d)) != all {
			t.Errorf("%d classes: a ring", Classes(d))
		}
		// Cut behind state 700, and from its end.
		cut := with(d, func(d *api.Dfa) { d.Next[700] = slices.Repeat([]int{700}, len(d.Next[700])) })
		if want := all[:701] + strings.Repeat("0", 1299); figures(Reach(cut)) != want {
			t.Errorf("%d classes: Reach where it is cut", Classes(d))
		}
		if want := strings.Repeat("0", 701) + all[:1299]; figures(Live(cut)) != want {
			t.Errorf("%d classes: Live where it is cut", Classes(d))
		}
		if Live(with(d, func(d *api.Dfa) { d.Ends[1999] = false }))[0] {
			t.Errorf("%d classes: Live without an end", Classes(d))
		}
	}
	// All states lead to all.
	every := api.Dfa{Class: eachByte(), Ends: make([]bool, 2000)}
	for s := range 2000 {
		var row []int
		for c := range 256 {
			row = append(row, (s*256+c)%2000)
		}
		every.Next = append(every.Next, row)
	}
	every.Ends[1234] = true
	if figures(Reach(every)) != all || figures(Live(every)) != all {
		t.Error("all states lead to all")
	}
}

// P11.1: Flip turns Ends, and them alone.
func TestFlip(t *testing.T) {
	for name, d := range valid() {
		f := Flip(d)
		if f.Class != d.Class || fmt.Sprint(f.Next) != fmt.Sprint(d.Next) || len(f.Ends) != len(d.Ends) {
			t.Errorf("%s: Class or Next, or how many Ends", name)
		}
		for s := range d.Ends {
			if f.Ends[s] == d.Ends[s] {
				t.Errorf("%s: state %d", name, s)
			}
		}
		if !May(f) || tell(Flip(f)) != tell(d) {
			t.Errorf("%s: twice", name)
		}
	}
}

// P11.1: Same sees each difference, in any machine.
func TestSame(t *testing.T) {
	machines := valid()
	maps.Copy(machines, notValid())
	base := []string{"a, b and c", "no states, but an end", "an end too few", "row 3: nil", "row 0: far below"}
	for name, d := range machines {
		if !Same(d, d) || !Same(d, clone(d)) || !Same(clone(d), d) {
			t.Errorf("%s: not the same as itself", name)
		}
		told := tell(d)
		for _, other := range base {
			x := machines[other]
			if want := told == tell(x); Same(d, x) != want || Same(x, d) != want {
				t.Errorf("%s and %s: %t", name, other, !want)
			}
		}
	}
	d := machines["a, b and c"]
	differs := map[string]func(d *api.Dfa){
		"a state more":   func(d *api.Dfa) { d.Next = append(d.Next, []int{0, 0, 0, 0}) },
		"an empty row":   func(d *api.Dfa) { d.Next = append(d.Next, nil) },
		"a state less":   func(d *api.Dfa) { d.Next = d.Next[:3] },
		"no Next":        func(d *api.Dfa) { d.Next = nil },
		"an end more":    func(d *api.Dfa) { d.Ends = append(d.Ends, false) },
		"an end less":    func(d *api.Dfa) { d.Ends = d.Ends[:3] },
		"no Ends":        func(d *api.Dfa) { d.Ends = nil },
		"two rows swap":  func(d *api.Dfa) { d.Next[0], d.Next[1] = d.Next[1], d.Next[0] },
		"two ends swap":  func(d *api.Dfa) { d.Ends[0], d.Ends[1] = d.Ends[1], d.Ends[0] },
		"all one higher": func(d *api.Dfa) { d.Class = classes(4, "", "a", "b", "c") },
	}
	for s := range d.Next {
		differs[fmt.Sprint("end ", s)] = func(d *api.Dfa) { d.Ends[s] = !d.Ends[s] }
		differs[fmt.Sprint("longer ", s)] = func(d *api.Dfa) { d.Next[s] = append(d.Next[s], 0) }
		differs[fmt.Sprint("shorter ", s)] = func(d *api.Dfa) { d.Next[s] = d.Next[s][:3] }
		for c := range d.Next[s] {
			differs[fmt.Sprint("from ", s, " by ", c)] = func(d *api.Dfa) { d.Next[s][c]++ }
		}
	}
	for b := range 256 {
		differs[fmt.Sprint("byte ", b)] = func(d *api.Dfa) { d.Class[b] ^= 1 }
	}
	for name, turn := range differs {
		if x := with(d, turn); Same(d, x) || Same(x, d) {
			t.Errorf("%s: the same", name)
		}
	}
	// Which words there are doesn't count.
	if Same(machine(classes(0), "0"), machine(classes(0), "1", "0")) {
		t.Error("equal words")
	}
}

// R3: a nil list is as good as an empty one.
func TestNil(t *testing.T) {
	for i, x := range [][2]api.Dfa{
		{{}, {Next: [][]int{}, Ends: []bool{}}},
		{{Next: [][]int{nil, {}}}, {Next: [][]int{{}, nil}, Ends: make([]bool, 0, 4)}},
		{{Class: abc(), Ends: []bool{true}}, {Class: abc(), Next: make([][]int, 0, 9), Ends: []bool{true}}},
	} {
		if !Same(x[0], x[1]) || !Same(x[1], x[0]) || !Same(Copy(x[0]), x[1]) || !Same(Copy(x[1]), x[0]) {
			t.Errorf("%d: not the same", i)
		}
	}
	if Same(api.Dfa{Next: [][]int{nil}}, api.Dfa{}) || Same(api.Dfa{}, api.Dfa{Next: [][]int{{}}}) {
		t.Error("an empty row is none")
	}
}

// P11.1: Copy of any machine is the same.
func TestCopy(t *testing.T) {
	machines := valid()
	maps.Copy(machines, notValid())
	for name, d := range machines {
		c := Copy(d)
		if tell(c) != tell(clone(d)) || !Same(c, d) || !Same(d, c) || May(c) != May(d) {
			t.Errorf("%s: another one: %.200s", name, tell(c))
		}
	}
}

// apart checks that no list of d shares any room with one that told tells of, nor with another one of d: each in turn is written over, all of its room.
func apart(t *testing.T, name string, d api.Dfa, told func() string) {
	t.Helper()
	before := told()
	want := tell(d)
	for s := range d.Next {
		l := d.Next[s]
		kept := slices.Clone(l)
		for i := range l[:cap(l)] {
			l[:cap(l)][i] = -99
		}
		if told() != before {
			t.Fatalf("%s: row %d shares its room", name, s)
		}
		copy(l, kept)
		if tell(d) != want {
			t.Fatalf("%s: row %d shares its room with another", name, s)
		}
	}
	for i, end := range d.Ends[:cap(d.Ends)] {
		d.Ends[:cap(d.Ends)][i] = !end
	}
	next := d.Next[:cap(d.Next)]
	for i := range next {
		next[i] = []int{-99}
	}
	if told() != before {
		t.Fatalf("%s: Ends or Next shares its room", name)
	}
}

// R3: what is answered shares nothing with what was given, which is not changed, nor the room behind it.
func TestApart(t *testing.T) {
	for name, ask := range map[string]func(api.Dfa) api.Dfa{"Copy": Copy, "Flip": Flip} {
		row := []int{1, 0, 2, 9, 9}
		d := api.Dfa{Class: classes(1, "a"), Next: [][]int{row[:2], []int{2, 2, 7, 7}[:2], row[:2], {5, 5}}, Ends: []bool{true, false, true, true}}
		whole := d
		d.Next, d.Ends = d.Next[:3], d.Ends[:3]
		told := func() string {
			rows := ""
			for _, r := range whole.Next {
				rows += fmt.Sprint(r[:cap(r)])
			}
			return rows + tell(whole)
		}
		before := told()
		made := ask(d)
		apart(t, name, made, told)
		for _, ask := range []func(){func() { May(d) }, func() { Classes(d) }, func() { Run(d, []byte("abc")) }, func() { To(d, 1, []byte("abc")) }, func() { Reach(d) }, func() { Live(d) }, func() { Same(d, d) }, func() { Flip(d) }, func() { Copy(d) }} {
			if ask(); told() != before {
				t.Fatalf("%s: the argument is changed", name)
			}
		}
	}
	if Copy(api.Dfa{Next: [][]int{{1}}}).Ends != nil || len(Copy(api.Dfa{}).Next) != 0 {
		t.Error("Copy of nothing")
	}
	d := machine(classes(0), "1", "0*")
	w := []byte("abcdef")
	Run(d, w[:3])
	To(d, 1, w[:3])
	if string(w) != "abcdef" {
		t.Error("the word is changed")
	}
}

// R3, R4: answers are new each time.
func TestNew(t *testing.T) {
	d := machine(abc(), "0123", "3210*", "2222", "3333*")
	for range 3 {
		for name, ask := range map[string]func(api.Dfa) []bool{"Reach": Reach, "Live": Live} {
			l := ask(d)
			if want := map[string]string{"Reach": "1111", "Live": "1101"}[name]; figures(l) != want {
				t.Errorf("%s: %s, not %s", name, figures(l), want)
			}
			for i := range l[:cap(l)] {
				l[:cap(l)][i] = false
			}
		}
	}
	if tell(d) != tell(machine(abc(), "0123", "3210*", "2222", "3333*")) {
		t.Error("the argument is changed")
	}
}

// grown is a valid machine of n states, whose classes may have no byte, and whose states may lead to few.
func grown(numbers *rand.Rand, n int) api.Dfa {
	count := 1 + numbers.Intn(5)
	d := api.Dfa{}
	for b := range d.Class {
		d.Class[b] = uint8(numbers.Intn(count))
	}
	unused := uint8(numbers.Intn(count + 1))
	for b, c := range d.Class {
		if c == unused {
			d.Class[b] = uint8(count - 1)
		}
	}
	d.Class[numbers.Intn(256)] = uint8(count - 1)
	few := 1 + numbers.Intn(n)
	for s := range n {
		var row []int
		for range count {
			to := (s + numbers.Intn(few)) % n
			if numbers.Intn(3) == 0 {
				to = s
			}
			row = append(row, to)
		}
		d.Next, d.Ends = append(d.Next, row), append(d.Ends, numbers.Intn(n) == 0)
	}
	return d
}

// from is which states words lead to from s, by their definition: again and again by each byte, until nothing comes in.
func from(d api.Dfa, s int) []bool {
	in := make([]bool, len(d.Next))
	in[s] = true
	for more := true; more; {
		more = false
		for at := range in {
			for b := range 256 {
				if to := d.Next[at][d.Class[b]]; in[at] && !in[to] {
					in[to], more = true, true
				}
			}
		}
	}
	return in
}

// P11.1: machines of many sizes, held against the definitions.
func TestGrown(t *testing.T) {
	numbers := rand.New(rand.NewSource(11))
	reached, lives, not := 0, 0, 0
	for i := range 2000 {
		d := grown(numbers, 1+i%14)
		if !May(d) {
			t.Fatalf("%s: valid", tell(d))
		}
		reach, live := Reach(d), Live(d)
		if want := from(d, 0); !slices.Equal(reach, want) {
			t.Fatalf("%s: Reach %s, not %s", tell(d), figures(reach), figures(want))
		}
		if len(live) != len(d.Next) {
			t.Fatalf("%s: Live %s", tell(d), figures(live))
		}
		for s := range d.Next {
			want := false
			for to, is := range from(d, s) {
				want = want || is && d.Ends[to]
			}
			if live[s] != want {
				t.Fatalf("%s: Live %s, state %d", tell(d), figures(live), s)
			}
			if want {
				lives++
			} else {
				not++
			}
			if reach[s] {
				reached++
			}
		}
		walked(t, numbers, d)
	}
	if reached < 3000 || lives < 3000 || not < 1500 {
		t.Errorf("%d reached, %d live, %d not", reached, lives, not)
	}
}

// walked holds To and Run of d, and Run of its Flip, against single steps.
func walked(t *testing.T, numbers *rand.Rand, d api.Dfa) {
	t.Helper()
	f := Flip(d)
	for range 6 {
		s := numbers.Intn(len(d.Next))
		at, start := s, 0
		w := make([]byte, numbers.Intn(9))
		for i := range w {
			w[i] = byte(numbers.Intn(256))
			at, start = d.Next[at][d.Class[w[i]]], d.Next[start][d.Class[w[i]]]
		}
		if got := To(d, s, w); got != at {
			t.Fatalf("%s: from %d by %q: %d, not %d", tell(d), s, w, got, at)
		}
		if Run(d, w) != d.Ends[start] || Run(f, w) == d.Ends[start] {
			t.Fatalf("%s: Run of %q, %t", tell(d), w, Run(d, w))
		}
	}
}

// What follows: Flip takes the words that the machine doesn't, of machines of expressions too, which take the words of these.
func TestAgrees(t *testing.T) {
	words := allWords("abcx", 4)
	for _, text := range []string{"", "[]", "a", "ab|c", "a*b*", "(a|b)*abb", "[^a]*", "a(b|c)*d?", "x+y+", ".*a.", "(ab|ba)*", "a|b|", "[a-c][b-d]?", "((a*)b)*", ".*"} {
		r, at, e := parse.Parse(text)
		if e != api.OK {
			t.Fatalf("%q: error %d at %d", text, e, at)
		}
		n, e := thompson.Build(r)
		if e != api.OK {
			t.Fatalf("%q: error %d", text, e)
		}
		d, e := subset.Make(n, api.MaxSets)
		if e != api.OK || !May(d) {
			t.Fatalf("%q: error %d", text, e)
		}
		if _, count := subset.Classes(n); Classes(d) != count {
			t.Errorf("%q: %d classes, not %d", text, Classes(d), count)
		}
		if strings.Contains(figures(Reach(d)), "0") {
			t.Errorf("%q: all of it is reached, not %s", text, figures(Reach(d)))
		}
		if Live(d)[0] != (text != "[]") {
			t.Errorf("%q: Live %s", text, figures(Live(d)))
		}
		f := Flip(d)
		for _, w := range words {
			want := thompson.Run(n, []byte(w))
			if Run(d, []byte(w)) != want || Run(f, []byte(w)) == want {
				t.Errorf("%q: Run of %q: %t", text, w, !want)
			}
		}
	}
}
