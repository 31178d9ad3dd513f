package least

import (
	"fmt"
	"math/rand"
	"slices"
	"strings"
	"testing"

	"scriptory/api"
	"scriptory/machine"
	"scriptory/parse"
	"scriptory/subset"
	"scriptory/thompson"
)

// classes makes a Class of texts: the bytes of the first one have class 0, and so on; all others have class rest.
func classes(rest uint8, texts ...string) (class [256]uint8) {
	for b := range class {
		class[b] = rest
	}
	for c, s := range texts {
		for _, b := range []byte(s) {
			class[b] = uint8(c)
		}
	}
	return class
}

// dfa makes a machine of a text for each state: a figure for each class, and * behind those of one that ends a word.
func dfa(class [256]uint8, rows ...string) api.Dfa {
	d := api.Dfa{Class: class}
	for _, s := range rows {
		figures, end := strings.CutSuffix(s, "*")
		var row []int
		for _, f := range figures {
			row = append(row, int(f-'0'))
		}
		d.Next, d.Ends = append(d.Next, row), append(d.Ends, end)
	}
	return d
}

// The classes of most machines here: all bytes; all but a, and a; all but a and b, a, and b.
var (
	one = classes(0)
	a   = classes(0, "", "a")
	ab  = classes(0, "", "a", "b")
)

// eachByte has a class for each byte.
func eachByte() (class [256]uint8) {
	for b := range class {
		class[b] = uint8(b)
	}
	return class
}

// ring is a machine of n states, each of which leads to the next one by each byte, and the last one to the first. Those of ends end a word.
func ring(n int, class [256]uint8, ends ...int) api.Dfa {
	d := api.Dfa{Class: class, Ends: make([]bool, n)}
	for s := range n {
		d.Next = append(d.Next, slices.Repeat([]int{(s + 1) % n}, 1+int(slices.Max(class[:]))))
	}
	for _, s := range ends {
		d.Ends[s] = true
	}
	return d
}

// tell writes all of a machine, so that two texts are the same where the machines are.
func tell(d api.Dfa) string {
	rows := make([]string, len(d.Next))
	for s, row := range d.Next {
		rows[s] = fmt.Sprint(row)
	}
	return fmt.Sprint(rows, d.Ends, d.Class)
}

// with is d with something done to a copy of it.
func with(d api.Dfa, turn func(d *api.Dfa)) api.Dfa {
	next := [][]int{}
	for _, row := range d.Next {
		next = append(next, append([]int{}, row...))
	}
	d = api.Dfa{Class: d.Class, Next: next, Ends: append([]bool{}, d.Ends...)}
	turn(&d)
	return d
}

// upTo is the numbers from 0 on that are less than n.
func upTo(n int) []int {
	l := make([]int, n)
	for i := range l {
		l[i] = i
	}
	return l
}

// letters is a byte of each class that bytes have.
func letters(d api.Dfa) (l []byte) {
	for b, c := range d.Class {
		if slices.Index(d.Class[:], c) == b {
			l = append(l, byte(b))
		}
	}
	return l
}

// apart tells whether the words of x and y differ: by each byte from each pair of states that is found.
func apart(x, y api.Dfa) bool {
	seen := make([]bool, len(x.Next)*len(y.Next))
	seen[0] = true
	for queue := [][2]int{{0, 0}}; len(queue) > 0; queue = queue[1:] {
		p := queue[0]
		if x.Ends[p[0]] != y.Ends[p[1]] {
			return true
		}
		for b := range 256 {
			s, t := x.Next[p[0]][x.Class[b]], y.Next[p[1]][y.Class[b]]
			if at := s*len(y.Next) + t; !seen[at] {
				seen[at] = true
				queue = append(queue, [2]int{s, t})
			}
		}
	}
	return false
}

// parted is Parts by its definition: two states are told apart where a byte leads to two that are, again and again until none come in.
func parted(d api.Dfa) (l []int) {
	differ := make([][]bool, len(d.Next))
	for s := range d.Next {
		for t := range d.Next {
			differ[s] = append(differ[s], d.Ends[s] != d.Ends[t])
		}
	}
	for more := true; more; {
		more = false
		for _, b := range letters(d) {
			for s := range d.Next {
				for t := range d.Next {
					if !differ[s][t] && differ[d.Next[s][d.Class[b]]][d.Next[t][d.Class[b]]] {
						differ[s][t], more = true, true
					}
				}
			}
		}
	}
	for s := range d.Next {
		l = append(l, slices.Index(differ[s], false))
	}
	return l
}

// why tells which part of the definition a valid machine doesn't have, of which there may be several; nothing, if it is minimal.
func why(d api.Dfa) string {
	for s, p := range parted(d) {
		if p != s {
			return fmt.Sprintf("%d and %d are equivalent", p, s)
		}
	}
	before := -1
	for c := range d.Next[0] {
		b := slices.Index(d.Class[:], uint8(c))
		if b < before || b == -1 {
			return fmt.Sprintf("class %d: byte %d", c, b)
		}
		before = b
		for other := range c {
			if !slices.ContainsFunc(d.Next, func(row []int) bool { return row[c] != row[other] }) {
				return fmt.Sprintf("classes %d and %d lead to the same states", other, c)
			}
		}
	}
	found := 1
	for s, row := range d.Next {
		if s == found {
			return fmt.Sprintf("%d is not reached, or not in its place", s)
		}
		for _, to := range row {
			if to > found {
				return fmt.Sprintf("%d is found ahead of %d", to, found)
			}
			found = max(found, to+1)
		}
	}
	return ""
}

// held holds all that is answered of a valid machine against the definitions.
func held(t testing.TB, d api.Dfa) api.Dfa {
	t.Helper()
	told := tell(d)
	m := Least(d)
	if !machine.May(m) || why(m) != "" {
		t.Fatalf("%.2000s: not minimal: %.2000s: %s", told, tell(m), why(m))
	}
	if apart(d, m) {
		t.Fatalf("%.2000s: other words: %.2000s", told, tell(m))
	}
	if got, want := Parts(d), parted(d); !slices.Equal(got, want) {
		t.Fatalf("%.2000s: Parts %v, not %v", told, got, want)
	}
	if Is(d) != (why(d) == "") {
		t.Fatalf("%.2000s: Is %t: %s", told, Is(d), why(d))
	}
	if !Is(m) || tell(Least(m)) != tell(m) {
		t.Fatalf("%.2000s: Is and Least of %.2000s", told, tell(m))
	}
	if tell(d) != told {
		t.Fatalf("%.2000s: changed: %.2000s", told, tell(d))
	}
	return m
}

// P12.1: machines made by hand, and what is least of them.
func TestLeast(t *testing.T) {
	for i, x := range []struct{ d, want api.Dfa }{
		// No words, and all words.
		{dfa(one, "0"), dfa(one, "0")},
		{dfa(ab, "123", "213", "333", "012"), dfa(one, "0")},
		{dfa(ab, "000", "111*"), dfa(one, "0")},
		{dfa(one, "0*"), dfa(one, "0*")},
		{dfa(ab, "123*", "213*", "333*", "012*"), dfa(one, "0*")},
		{dfa(ab, "010*", "111*", "222"), dfa(one, "0*")},
		// The empty word; all but the empty word; words of an even number of bytes.
		{dfa(one, "1*", "1"), dfa(one, "1*", "1")},
		{dfa(one, "1*", "2", "1"), dfa(one, "1*", "1")},
		{dfa(one, "1", "2*", "1*"), dfa(one, "1", "1*")},
		{dfa(one, "1*", "2", "3*", "0"), dfa(one, "1*", "0")},
		{ring(6, eachByte(), 0, 2, 4), ring(2, one, 0)},
		// A state that nothing leads to, one that leads to itself alone, and two that lead to each other.
		{dfa(a, "01", "11*", "01*"), dfa(a, "01", "11*")},
		{dfa(a, "03", "22*", "11*", "33*"), dfa(a, "01", "11*")},
		// It starts where it started: in state 0, though that is found again in its equal.
		{dfa(a, "12", "02", "22*"), dfa(a, "01", "11*")},
		// The order in which states are found: state by state, class by class.
		{dfa(ab, "021", "111*", "202"), dfa(ab, "012", "101", "222*")},
		{dfa(ab, "312", "111*", "333", "213"), dfa(ab, "123", "321", "222*", "111")},
		{dfa(ab, "431", "222", "222*", "121", "044"), dfa(ab, "123", "011", "343", "444", "444*")},
		// Classes that lead alike: in d, only from states that are reached, only to states that are equivalent.
		{dfa(ab, "011", "100*"), dfa(classes(0, "", "ab"), "01", "10*")},
		{dfa(ab, "011", "111*", "012"), dfa(classes(0, "", "ab"), "01", "11*")},
		{dfa(ab, "012", "211*", "122*"), dfa(classes(0, "", "ab"), "01", "11*")},
		{dfa(ab, "101", "000*"), dfa(classes(0, "", "a"), "10", "00*")},
		{dfa(ab, "001", "111*"), dfa(classes(0, "", "b"), "01", "11*")},
		{dfa(ab, "110", "001*"), dfa(classes(0, "", "b"), "10", "01*")},
		// Classes by their least bytes, and the states with them.
		{dfa(classes(2, "b", "a"), "120", "111*", "222"), dfa(ab, "012", "111", "222*")},
		{dfa(classes(0, "", "\x00"), "01", "11*"), dfa(classes(1, "\x00"), "10", "11*")},
		{dfa(classes(1, "\x00"), "01", "11*"), dfa(classes(1, "\x00"), "01", "11*")},
		{dfa(classes(1, "\xff"), "01", "11*"), dfa(classes(0, "", "\xff"), "10", "11*")},
		{dfa(classes(2, "a\x00", "bc"), "012", "111*", "222"), dfa(classes(1, "a\x00", "", "bc"), "012", "111", "222*")},
		// Classes that no byte has: all that they lead to is as if it weren't there.
		{dfa(classes(1), "10", "01*"), dfa(one, "0")},
		{dfa(classes(1), "11*", "01*"), dfa(one, "0*")},
		{dfa(classes(2, "a"), "021", "101*", "102*"), dfa(classes(0, "", "a"), "10", "11*")},
		{dfa(classes(2, "a"), "012", "121*", "212*"), dfa(classes(0, "", "a"), "10", "11*")},
		{dfa(classes(1, "", "a"), "01", "11*"), dfa(one, "1", "1*")},
		{with(ring(3, classes(255), 1), func(d *api.Dfa) { d.Next[0][0], d.Next[1][7], d.Next[2][254] = 0, 1, 2 }), ring(3, one, 1)},
	} {
		if got := held(t, x.d); tell(got) != tell(x.want) {
			t.Errorf("%d: %s, not %s", i, tell(got), tell(x.want))
		}
		if !Is(x.want) || Is(x.d) != (tell(x.d) == tell(x.want)) {
			t.Errorf("%d: Is", i)
		}
	}
}

// P12.1: Parts of machines made by hand: a figure for each state.
func TestParts(t *testing.T) {
	for i, x := range []struct {
		d    api.Dfa
		want string
	}{
		{dfa(one, "0"), "0"}, {dfa(one, "0*"), "0"}, {dfa(one, "1", "0"), "00"}, {dfa(one, "1*", "0*"), "00"}, {dfa(one, "1", "0*"), "01"}, {dfa(one, "1*", "1"), "01"},
		{ring(6, one, 1, 4), "012012"}, {ring(6, one, 0, 2, 4), "010101"}, {ring(6, one, 0, 2), "012345"}, {ring(6, one, 5), "012345"},
		// States that nothing leads to have equals, too, among themselves and among the others.
		{dfa(a, "00", "11"), "00"}, {dfa(a, "00", "11*", "11*", "20"), "0113"}, {dfa(a, "01", "11*", "23", "33*"), "0101"}, {dfa(a, "00", "12", "22*", "14", "00"), "01230"},
		// Told apart by a word of one byte, or of several, or by none.
		{dfa(ab, "012", "111*", "212"), "010"}, {dfa(ab, "012", "111*", "211"), "012"}, {dfa(a, "00*", "20", "31", "31"), "0122"}, {dfa(one, "3", "4", "5", "6", "6", "7", "8", "8*", "8"), "002005070"},
		// A class that no byte has tells nothing apart.
		{dfa(classes(1), "10", "01*"), "01"}, {dfa(classes(1), "20", "21", "22*"), "002"}, {dfa(classes(2, "a"), "000", "121", "212"), "000"}, {dfa(classes(2, "a"), "032", "112", "222", "333*"), "0003"}, {dfa(classes(2, "a"), "032", "113", "222", "333*"), "0103"},
	} {
		want := make([]int, len(x.want))
		for s, f := range x.want {
			want[s] = int(f - '0')
		}
		held(t, x.d)
		if got := Parts(x.d); !slices.Equal(got, want) {
			t.Errorf("%d: %v, not %v", i, got, want)
		}
	}
}

// minimal is some minimal machines.
func minimal() map[string]api.Dfa {
	return map[string]api.Dfa{
		"no words":         dfa(one, "0"),
		"all words":        dfa(one, "0*"),
		"the empty word":   dfa(one, "1*", "1"),
		"some byte":        dfa(one, "1", "2*", "2"),
		"a":                dfa(a, "12", "11", "11*"),
		"byte 0":           dfa(classes(1, "\x00"), "12", "22*", "22"),
		"ends in abb":      dfa(ab, "010", "012", "013", "010*"),
		"a or b, then all": dfa(ab, "123", "111", "421", "414", "444*"),
		"each byte":        with(ring(256, eachByte(), 0), func(d *api.Dfa) { d.Next[0] = upTo(256) }),
		"a ring":           ring(2000, one, 1999),
	}
}

// P12.1: Is of what is minimal, and of what has one fault of those that the definition has.
func TestIs(t *testing.T) {
	for name, d := range minimal() {
		if !Is(d) || tell(Least(d)) != tell(d) || !slices.Equal(Parts(d), upTo(len(d.Next))) {
			t.Errorf("%s: minimal", name)
		}
	}
	for i, x := range []struct {
		d    api.Dfa
		want string
	}{
		{dfa(ab, "010", "012", "013", "010*", "444"), "4 is not reached"},
		{dfa(a, "12", "11", "11*", "33*"), "3 is not reached"},
		{dfa(a, "12", "11", "11*", "30"), "3 is not reached"},
		{dfa(one, "0", "1*"), "1 is not reached"},
		{dfa(classes(0, "", "", "a"), "013", "111", "222", "333*"), "1 and 2 are equivalent"},
		{dfa(one, "1*", "2", "1"), "1 and 2 are equivalent"},
		{dfa(ab, "123", "111", "111*", "111*"), "2 and 3 are equivalent"},
		{dfa(a, "12", "02", "22*"), "0 and 1 are equivalent"},
		{dfa(one, "1", "0"), "0 and 1 are equivalent"},
		{dfa(ab, "011", "100*"), "classes 1 and 2 lead to the same states"},
		{dfa(ab, "101", "010*"), "classes 0 and 2 lead to the same states"},
		{dfa(ab, "000"), "classes 0 and 1 lead to the same states"},
		{ring(2, eachByte(), 1), "classes 0 and 1 lead to the same states"},
		{dfa(classes(1, "a"), "12", "11*", "22"), "class 1: byte 0"},
		{dfa(classes(0, "", "b", "a"), "012", "111", "222*"), "class 2: byte 97"},
		{dfa(classes(1, "\xff"), "01", "11*"), "class 1: byte 0"},
		{dfa(a, "21", "11*", "22"), "2 is found ahead of 1"},
		{dfa(ab, "021", "111", "222*"), "2 is found ahead of 1"},
		{dfa(ab, "012", "141", "232*", "333", "444*"), "4 is found ahead of 3"},
		{dfa(classes(1), "10", "01*"), "class 0: byte -1"},
		{dfa(classes(0, "", "", "a"), "001", "101*"), "class 1: byte -1"},
		{ring(1, classes(255)), "class 0: byte -1"},
		{with(ring(256, eachByte(), 0), func(d *api.Dfa) { d.Next[0], d.Class[255] = upTo(256), 254; d.Class[254] = 255 }), "class 255: byte 254"},
	} {
		if got := why(x.d); !strings.HasPrefix(got, x.want) {
			t.Errorf("%d: %q, not %q", i, got, x.want)
		}
		if Is(x.d) {
			t.Errorf("%d: not minimal: %s", i, x.want)
		}
	}
}

// orders is all orders of the numbers that are less than n.
func orders(n int) (l [][]int) {
	if n == 0 {
		return [][]int{nil}
	}
	for _, o := range orders(n - 1) {
		for i := range n {
			l = append(l, slices.Insert(slices.Clone(o), i, n-1))
		}
	}
	return l
}

// renamed is d with other numbers for its states and its classes.
func renamed(d api.Dfa, states, classes []int) api.Dfa {
	return with(d, func(m *api.Dfa) {
		for s, row := range d.Next {
			for c, to := range row {
				m.Next[states[s]][classes[c]] = states[to]
			}
			m.Ends[states[s]] = d.Ends[s]
		}
		for b, c := range d.Class {
			m.Class[b] = uint8(classes[c])
		}
	})
}

// P12.1: of all the orders in which states and classes may be, one is that of the minimal machine, which Least finds.
func TestOrders(t *testing.T) {
	for name, d := range minimal() {
		if len(d.Next) > 9 {
			continue
		}
		found := 0
		for _, states := range orders(len(d.Next)) {
			for _, classes := range orders(len(d.Next[0])) {
				m := renamed(d, states, classes)
				if states[0] == 0 && Is(m) {
					found++
				}
				if states[0] == 0 && tell(Least(m)) != tell(d) {
					t.Fatalf("%s: states %v, classes %v: %s", name, states, classes, tell(Least(m)))
				}
				if !slices.Equal(Parts(m), upTo(len(d.Next))) {
					t.Fatalf("%s: states %v, classes %v: Parts %v", name, states, classes, Parts(m))
				}
			}
		}
		if found != 1 {
			t.Errorf("%s: minimal in %d orders", name, found)
		}
	}
}

// notValid is machines each of which has one fault.
func notValid() map[string]api.Dfa {
	turned := func(turn func(d *api.Dfa)) api.Dfa { return with(dfa(ab, "123", "111", "421", "414", "444*"), turn) }
	return map[string]api.Dfa{
		"nothing":                    {},
		"no states":                  {Next: [][]int{}, Ends: []bool{}},
		"no states, but an end":      {Ends: []bool{true}},
		"no states, but classes":     {Class: ab},
		"no Ends":                    turned(func(d *api.Dfa) { d.Ends = nil }),
		"an end too few":             turned(func(d *api.Dfa) { d.Ends = d.Ends[:4] }),
		"an end too many":            turned(func(d *api.Dfa) { d.Ends = append(d.Ends, false) }),
		"a class too many":           turned(func(d *api.Dfa) { d.Class['x'] = 3 }),
		"class 255":                  turned(func(d *api.Dfa) { d.Class['x'] = 255 }),
		"a class too few":            turned(func(d *api.Dfa) { d.Class = a }),
		"an empty row":               {Next: [][]int{{}}, Ends: []bool{true}},
		"a nil row":                  turned(func(d *api.Dfa) { d.Next[4] = nil }),
		"a short row":                turned(func(d *api.Dfa) { d.Next[0] = d.Next[0][:2] }),
		"a long row":                 turned(func(d *api.Dfa) { d.Next[2] = append(d.Next[2], 0) }),
		"below":                      turned(func(d *api.Dfa) { d.Next[0][0] = -1 }),
		"far below":                  turned(func(d *api.Dfa) { d.Next[4][2] = -1 << 63 }),
		"behind":                     turned(func(d *api.Dfa) { d.Next[3][1] = 5 }),
		"far behind":                 turned(func(d *api.Dfa) { d.Next[0][2] = 1<<63 - 1 }),
		"behind, by no byte":         with(dfa(classes(1), "00"), func(d *api.Dfa) { d.Next[0][0] = 1 }),
		"behind, from a state aside": with(dfa(one, "0", "1"), func(d *api.Dfa) { d.Next[1][0] = 2 }),
		"2,001 states":               ring(2001, one, 2000),
		"very many states":           ring(1<<18, one, 5),
		"very many nil rows":         {Next: make([][]int, 1<<20), Ends: make([]bool, 1<<20)},
	}
}

// P12.1: what is not valid has nothing minimal and no parts.
func TestNotValid(t *testing.T) {
	for name, d := range notValid() {
		if m := Least(d); len(m.Next) != 0 || len(m.Ends) != 0 || m.Class != one {
			t.Errorf("%s: Least %.200s", name, tell(m))
		}
		if Is(d) {
			t.Errorf("%s: Is", name)
		}
		if l := Parts(d); len(l) != 0 {
			t.Errorf("%s: Parts %.20v", name, l)
		}
	}
}

// grown is a valid machine of n states at random, of classes that may have no byte.
func grown(numbers *rand.Rand, n, most int) api.Dfa {
	count := 1 + numbers.Intn(most)
	d := api.Dfa{}
	for b := range d.Class {
		d.Class[b] = uint8(numbers.Intn(count))
	}
	if unused := uint8(numbers.Intn(count)); numbers.Intn(3) == 0 {
		for b, c := range d.Class {
			if c == unused {
				d.Class[b] = uint8(count - 1)
			}
		}
	}
	d.Class[numbers.Intn(256)] = uint8(count - 1)
	few := 1 + numbers.Intn(n)
	for s := range n {
		var row []int
		for range count {
			row = append(row, (s+numbers.Intn(few))%n)
		}
		d.Next, d.Ends = append(d.Next, row), append(d.Ends, numbers.Intn(3) == 0)
	}
	return d
}

// place is where x is in l, in one of its places at random.
func place(numbers *rand.Rand, l []int, x int) int {
	at := numbers.Intn(len(l))
	for l[at] != x {
		at = (at + 1) % len(l)
	}
	return at
}

// blown is a machine with the words of d, with several states for one, several classes for one, of which bytes may have none, and some states more that are not reached.
func blown(numbers *rand.Rand, d api.Dfa, states int) (m api.Dfa) {
	count := len(d.Next[0])
	classOf := append(numbers.Perm(3*count), int(d.Class[255]))
	for c := range classOf {
		classOf[c] %= count
	}
	for b, c := range d.Class {
		m.Class[b] = uint8(place(numbers, classOf, int(c)))
	}
	// The greatest class is that of some byte.
	m.Class[255] = uint8(3 * count)
	stateOf := append([]int{0}, numbers.Perm(states)...)
	for s := range stateOf {
		stateOf[s] %= len(d.Next)
	}
	for _, s := range stateOf {
		var row []int
		for _, c := range classOf {
			row = append(row, place(numbers, stateOf, d.Next[s][c]))
		}
		m.Next, m.Ends = append(m.Next, row), append(m.Ends, d.Ends[s])
	}
	for range numbers.Intn(4) {
		var row []int
		for range classOf {
			row = append(row, numbers.Intn(len(m.Next)))
		}
		m.Next, m.Ends = append(m.Next, row), append(m.Ends, numbers.Intn(2) == 0)
	}
	return m
}

// P12.1: machines of many sizes, held against the definitions; and such as have their words.
func TestGrown(t *testing.T) {
	numbers := rand.New(rand.NewSource(12))
	sizes := map[int]int{}
	is := 0
	for i := range 3000 {
		d := grown(numbers, 1+i%14, 1+i%5)
		m := held(t, d)
		sizes[len(m.Next)]++
		if Is(d) {
			is++
		}
		b := blown(numbers, d, len(d.Next)+numbers.Intn(20))
		if got := held(t, b); tell(got) != tell(m) {
			t.Fatalf("%s, from %s: %s, not %s", tell(b), tell(d), tell(got), tell(m))
		}
	}
	for n := 1; n <= 12; n++ {
		if sizes[n] < 20 {
			t.Errorf("%d of %d states", sizes[n], n)
		}
	}
	if is < 20 {
		t.Errorf("%d that are minimal", is)
	}
}

// small is the machine of n states whose numbers are the figures of rows, to the base n, and whose ends are the bits of ends. Its classes are a and all other bytes.
func small(n, rows, ends int) api.Dfa {
	d := api.Dfa{Class: classes(1, "a")}
	for s := range n {
		d.Next = append(d.Next, []int{rows % n, rows / n % n})
		d.Ends = append(d.Ends, ends>>s&1 == 1)
		rows /= n * n
	}
	return d
}

// What follows: two machines have the same words if and only if their minimal machines are equal: all machines of at most three states and two classes. Two of them that differ do so in a word of at most four bytes; they have 1,054 languages.
func TestAllSmall(t *testing.T) {
	words := [][]byte{nil}
	for at := 0; len(words) < 31; at++ {
		words = append(words, append(slices.Clone(words[at]), 'a'), append(slices.Clone(words[at]), 'z'))
	}
	leastOf, languageOf := map[int]string{}, map[string]int{}
	for n, count := range []int{1: 1, 2: 16, 3: 729} {
		for rows := range count {
			for ends := range 1 << n {
				d := small(n, rows, ends)
				language := 0
				for i, w := range words {
					if machine.Run(d, w) {
						language |= 1 << i
					}
				}
				m := tell(held(t, d))
				if other, known := leastOf[language]; known && other != m {
					t.Fatalf("%s: %s, but %s", tell(d), m, other)
				}
				if other, known := languageOf[m]; known && other != language {
					t.Fatalf("%s: %s, which has other words, too", tell(d), m)
				}
				leastOf[language], languageOf[m] = m, language
			}
		}
	}
	if len(leastOf) != 1054 || len(languageOf) != 1054 {
		t.Errorf("%d languages, %d minimal machines", len(leastOf), len(languageOf))
	}
}

// many is n states, each of them farther from the only end than the next one, with ways back by each byte.
func many(n int) api.Dfa {
	d := api.Dfa{Class: eachByte(), Ends: make([]bool, n)}
	for s := range n {
		row := []int{min(s+1, n-1)}
		for c := 1; c < 256; c++ {
			row = append(row, min((s*(c+3)+c*c+c)%n, s+1))
		}
		d.Next = append(d.Next, row)
	}
	d.Ends[n-1] = true
	return d
}

// P12.1: as many states as may be, and as many classes.
func TestLarge(t *testing.T) {
	held(t, many(60))
	all := upTo(2000)
	long := ring(2000, one, 1999)
	for name, d := range map[string]api.Dfa{"one class": long, "each byte": ring(2000, eachByte(), 1999), "class 255": ring(2000, classes(255), 1999), "many ways": many(2000)} {
		if l := Parts(d); !slices.Equal(l, all) {
			t.Errorf("%s: Parts %v", name, l[:20])
		}
		m := Least(d)
		if name != "many ways" && tell(m) != tell(long) || len(m.Next) != 2000 || !Is(m) {
			t.Errorf("%s: Least", name)
		}
		// Each number but 0 goes down by one, and 1 to the top: the words are the same.
		turned := append([]int{0}, upTo(2000)[1:]...)
		for s := range turned[1:] {
			turned[s+1] = 1 + (s+1998)%1999
		}
		x := renamed(d, turned, upTo(len(d.Next[0])))
		if Is(x) || tell(Least(x)) != tell(m) {
			t.Errorf("%s: Least of other numbers", name)
		}
		if Is(with(m, func(d *api.Dfa) { d.Ends[1999] = false })) {
			t.Errorf("%s: Is without ends", name)
		}
	}
	for _, n := range []int{1, 2, 5, 1000} {
		d := ring(2000, eachByte())
		for s := range d.Ends {
			d.Ends[s] = s%n == n-1
		}
		parts := Parts(d)
		if m := Least(d); tell(m) != tell(ring(n, one, n-1)) {
			t.Errorf("a ring of %d, again and again: %d states", n, len(m.Next))
		}
		for s, p := range parts {
			if p != s%n {
				t.Fatalf("a ring of %d, again and again: Parts: %d of %d", n, p, s)
			}
		}
	}
	for _, ends := range []bool{false, true} {
		d := with(many(2000), func(d *api.Dfa) {
			for s := range d.Ends {
				d.Ends[s] = ends
			}
		})
		want := api.Dfa{Next: [][]int{{0}}, Ends: []bool{ends}}
		if m := Least(d); tell(m) != tell(want) || !slices.Equal(Parts(d), make([]int, 2000)) {
			t.Errorf("all of them %t: %d states", ends, len(m.Next))
		}
	}
}

// P12.1: each byte may be the one that tells two states apart, and whose class another one than the others have.
func TestEachByte(t *testing.T) {
	for b := range 256 {
		for _, class := range [][256]uint8{eachByte(), with(api.Dfa{}, func(d *api.Dfa) { d.Class[b] = 255 }).Class} {
			d := ring(3, class, 2)
			d.Next = [][]int{make([]int, 256), slices.Repeat([]int{1}, 256), slices.Repeat([]int{2}, 256)}
			d.Next[0][class[b]], d.Next[1][class[b]] = 1, 2
			want := dfa(classes(0, "", string([]byte{byte(b)})), "01", "12", "22*")
			if b == 0 {
				want = dfa(classes(1, "\x00"), "10", "21", "22*")
			}
			if m := held(t, d); tell(m) != tell(want) {
				t.Errorf("byte %d: %s", b, tell(m))
			}
		}
	}
	// As many classes as bytes stay as they are.
	d := with(ring(256, eachByte(), 0), func(d *api.Dfa) { d.Next[0] = upTo(256) })
	if m := held(t, d); tell(m) != tell(d) {
		t.Error("each byte a class")
	}
	if m := Least(with(d, func(d *api.Dfa) { d.Next[0][254] = 255 })); len(m.Next) != 256 || len(m.Next[0]) != 255 || m.Class[254] != 254 || m.Class[255] != 254 {
		t.Errorf("each byte but the last two a class: %d states, %d classes", len(m.Next), len(m.Next[0]))
	}
}

// R3: arguments are not changed, nor the room behind them.
func TestArguments(t *testing.T) {
	row := []int{1, 0, 2, 9, 9}
	whole := api.Dfa{Class: a, Next: [][]int{row[:2], []int{2, 2, 7, 7}[:2], row[:2], {5, 5}}, Ends: []bool{true, false, true, true}}
	d := whole
	d.Next, d.Ends = d.Next[:3], d.Ends[:3]
	told := func() string {
		var s []string
		for _, r := range whole.Next {
			s = append(s, fmt.Sprint(r[:cap(r)]))
		}
		return fmt.Sprint(s) + tell(whole)
	}
	before := told()
	for name, ask := range map[string]func(){"Least": func() { Least(d) }, "Is": func() { Is(d) }, "Parts": func() { Parts(d) }} {
		if ask(); told() != before {
			t.Fatalf("%s: changed: %s, not %s", name, told(), before)
		}
	}
	held(t, d)
}

// R3, R4: answers are new each time, and no list of one shares its room with another or with what was given, be that minimal.
func TestAnswers(t *testing.T) {
	for name, d := range minimal() {
		given := tell(d)
		m := Least(d)
		want := tell(m)
		// Each row gets a number of its own, all of its room.
		for s, row := range m.Next {
			for c := range row[:cap(row)] {
				row[:cap(row)][c] = -s
			}
		}
		for s, row := range m.Next {
			for c := range row[:cap(row)] {
				if row[:cap(row)][c] != -s {
					t.Fatalf("%s: rows %d and %d share their room", name, s, -row[:cap(row)][c])
				}
			}
		}
		parts := Parts(d)
		for s := range m.Ends {
			m.Ends[s] = !m.Ends[s]
			parts[s] = -99
		}
		clear(m.Next)
		if tell(d) != given {
			t.Errorf("%s: what was given is changed", name)
		}
		if tell(Least(d)) != want || !slices.Equal(Parts(d), upTo(len(d.Next))) || !Is(d) {
			t.Errorf("%s: another answer", name)
		}
	}
}

// built is the machine of a text, as subset makes it.
func built(t testing.TB, text string) api.Dfa {
	t.Helper()
	r, at, e := parse.Parse(text)
	if e != api.OK {
		t.Fatalf("%q: error %d at %d", text, e, at)
	}
	n, e := thompson.Build(r)
	if e != api.OK {
		t.Fatalf("%q: error %d", text, e)
	}
	d, e := subset.Make(n, api.MaxSets)
	if e != api.OK {
		t.Fatalf("%q: error %d", text, e)
	}
	return d
}

// What follows: the machines of expressions: those of a line have the same words, and those of two lines have not.
func TestExpressions(t *testing.T) {
	lines := [][]string{
		{"[]", "a[]", "[]b|[]*[]"},
		{"", "[]*", "()*", "()()"},
		{"[\\x00-\\xff]*", "([\\x00-\\xff]|)*", "[^]*", "([^a]|a)*", "([^]*)*"},
		{"[^]+", "[^][^]*", "[^]*[^]"},
		{"a", "[a-a]", "a()", "a|a[]"},
		{"a|b", "[ab]", "b|a", "[a-b]"},
		{"a*", "(a*)*", "a*a*", "(aa)*|a(aa)*", "(|a)+"},
		{"(a|b)*abb", "(a*b*)*abb", "(b|a)*a(bb)"},
		{"(ab)*", "|a(ba)*b", "(abab)*(|ab)"},
		{"(a|b)*", "(a*b*)*", "(a*|b)*", "[ba]*"},
		{"ab|ac|ad", "a[b-d]", "a(b|c|d)"},
		{"[a-c]x|[b-d]y", "ax|[bc]x|[bcd]y", "a(x)|[bc][xy]|dy"},
		{"\\x00", "[\\x00]"}, {"\\xff", "[^\\x00-\\xfe]"},
	}
	states := []int{1, 2, 1, 2, 3, 3, 2, 5, 3, 2, 4, 6, 3, 3}
	firsts := []api.Dfa{}
	for i, texts := range lines {
		first := held(t, built(t, texts[0]))
		if len(first.Next) != states[i] {
			t.Errorf("%q: %d states, not %d", texts[0], len(first.Next), states[i])
		}
		for _, text := range texts[1:] {
			if m := held(t, built(t, text)); tell(m) != tell(first) {
				t.Errorf("%q and %q: %s, %s", texts[0], text, tell(first), tell(m))
			}
		}
		for j, other := range firsts {
			if tell(other) == tell(first) {
				t.Errorf("%q and %q: the same", lines[j][0], texts[0])
			}
		}
		firsts = append(firsts, first)
		if f := Least(machine.Flip(first)); len(f.Next) != len(first.Next) || tell(machine.Flip(f)) != tell(first) {
			t.Errorf("%q: Flip is as minimal", texts[0])
		}
	}
}
