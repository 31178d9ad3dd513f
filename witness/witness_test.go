package witness

import (
	"bytes"
	"fmt"
	"math/big"
	"math/rand"
	"slices"
	"strings"
	"testing"

	"scriptory/api"
	"scriptory/least"
	"scriptory/machine"
	"scriptory/pair"
	"scriptory/parse"
	"scriptory/subset"
	"scriptory/thompson"
)

const (
	lowest   = -1 << 63
	greatest = 1<<63 - 1
)

// classes makes a Class of texts: the bytes of the first one have class 0, and so on; all others have class rest.
func classes(rest uint8, texts ...string) (class [256]uint8) {
	for b := range class {
		class[b] = rest
	}
	for c, s := range texts {
		for _, b := range []byte(s) {
			class[b] = uint8(c)
		}
	}
	return class
}

// dfa makes a machine of a text for each state: a figure for each class, and * behind those of one that ends a word.
func dfa(class [256]uint8, rows ...string) api.Dfa {
	d := api.Dfa{Class: class}
	for _, s := range rows {
		figures, end := strings.CutSuffix(s, "*")
		var row []int
		for _, f := range figures {
			row = append(row, int(f-'0'))
		}
		d.Next, d.Ends = append(d.Next, row), append(d.Ends, end)
	}
	return d
}

// The classes of most machines here: all bytes; all but a, and a; all but a and b, a, and b.
var (
	all = classes(0)
	a   = classes(0, "", "a")
	ab  = classes(0, "", "a", "b")
)

// eachByte has a class for each byte.
func eachByte() (class [256]uint8) {
	for b := range class {
		class[b] = uint8(b)
	}
	return class
}

// ring is a machine of n states, each of which leads to the next one by each byte, and the last one to the first. Those of ends end a word.
func ring(n int, class [256]uint8, ends ...int) api.Dfa {
	d := api.Dfa{Class: class, Ends: make([]bool, n)}
	for s := range n {
		d.Next = append(d.Next, slices.Repeat([]int{(s + 1) % n}, 1+int(slices.Max(class[:]))))
	}
	for _, s := range ends {
		d.Ends[s] = true
	}
	return d
}

// only is a machine of n states that takes words of the letter a alone: n-2 of them.
func only(n int) api.Dfa {
	d := ring(n, a, n-2)
	for s := range d.Next {
		d.Next[s][0] = n - 1
	}
	d.Next[n-1][1] = n - 1
	return d
}

// tell writes all of a machine, so that two texts are the same where the machines are.
func tell(d api.Dfa) string {
	rows := make([]string, len(d.Next))
	for s, row := range d.Next {
		rows[s] = fmt.Sprint(row)
	}
	return fmt.Sprint(rows, d.Ends, d.Class)
}

// with is d with something done to a copy of it.
func with(d api.Dfa, turn func(d *api.Dfa)) api.Dfa {
	next := [][]int{}
	for _, row := range d.Next {
		next = append(next, append([]int{}, row...))
	}
	d = api.Dfa{Class: d.Class, Next: next, Ends: append([]bool{}, d.Ends...)}
	turn(&d)
	return d
}

// texts is words as texts.
func texts(words [][]byte) []string {
	l := []string{}
	for _, w := range words {
		l = append(l, string(w))
	}
	return l
}

// P14.1: shortest words of machines made by hand.
func TestShortest(t *testing.T) {
	for i, x := range []struct {
		d    api.Dfa
		want string
	}{
		// The empty word, however much else there is.
		{dfa(all, "0*"), ""},
		{dfa(a, "01*", "11*"), ""},
		{dfa(a, "01*", "11"), ""},
		{ring(2000, eachByte(), 0, 1), ""},
		// One byte, the least one.
		{dfa(all, "1", "0*"), "\x00"},
		{dfa(a, "01", "00*"), "a"},
		{dfa(a, "10", "00*"), "\x00"},
		{dfa(classes(1, "\x00"), "01", "00*"), "\x01"},
		{dfa(classes(0, "", "\xff"), "01", "00*"), "\xff"},
		{dfa(classes(0, "", "\x7f\x80"), "01", "00*"), "\x7f"},
		{dfa(classes(0, "", "\x80\xff"), "01", "00*"), "\x80"},
		// By bytes, not by classes or states.
		{dfa(classes(0, "", "zm", "cb"), "011", "000*"), "b"},
		{dfa(classes(0, "", "cb", "zm"), "011", "000*"), "b"},
		{dfa(classes(0, "", "b", "a"), "012", "000*", "000*"), "a"},
		{dfa(classes(0, "", "b", "a"), "021", "000*", "000*"), "a"},
		{dfa(classes(4, "d", "c", "b", "a"), "01340", "00000*", "00000", "00000*", "00000"), "b"},
		// Of several, the first byte that differs tells, not the last one, nor which state has which number.
		{dfa(ab, "321", "343", "334", "333", "333*"), "ab"},
		{dfa(ab, "321", "344", "334", "333", "333*"), "ab"},
		{dfa(ab, "312", "334", "343", "333", "333*"), "ab"},
		{dfa(ab, "312", "333", "334", "333", "333*"), "bb"},
		{dfa(ab, "512", "553", "545", "555*", "555*", "555"), "ab"},
		{dfa(ab, "512", "554", "535", "555*", "555*", "555"), "ab"},
		{dfa(ab, "521", "535", "554", "555*", "555*", "555"), "ab"},
		// A shorter one goes first, even if a longer one is less.
		{dfa(ab, "413", "424", "434", "444*", "444"), "b"},
		{dfa(ab, "612", "636", "664", "656", "666*", "666*", "666"), "bb"},
		// A way back is no shortcut, and a state that is found twice has the first word.
		{dfa(ab, "012", "013", "012", "004", "444*"), "abb"},
		{dfa(ab, "411", "424", "434", "444*", "444"), "aaa"},
		{dfa(ab, "512", "533", "535", "545", "555*", "555"), "aaa"},
		{dfa(all, "1", "2", "1*"), "\x00\x00"},
		{ring(7, ab, 3, 5), "\x00\x00\x00"},
		// As many states as there may be.
		{ring(2000, all, 1999), strings.Repeat("\x00", 1999)},
		{ring(2000, eachByte(), 1999), strings.Repeat("\x00", 1999)},
		{ring(2000, classes(255), 1998), strings.Repeat("\x00", 1998)},
		{only(2000), strings.Repeat("a", 1998)},
		// A class that no byte has is no way to anywhere.
		{dfa(classes(2, "a"), "012", "111*", "201", "333*"), "\x00\x00"},
	} {
		if w, is := Shortest(x.d); !is || string(w) != x.want {
			t.Errorf("%d: %.20q, %t, not %.20q", i, w, is, x.want)
		}
	}
}

// none is valid machines that take no word.
func none() map[string]api.Dfa {
	return map[string]api.Dfa{
		"one state":                dfa(all, "0"),
		"no ends":                  dfa(ab, "012", "201", "120"),
		"nothing leads there":      dfa(ab, "001", "010", "012*"),
		"by no byte":               dfa(classes(1), "10", "20", "12*"),
		"by no byte, among others": dfa(classes(2, "a"), "010", "111*"),
		"2,000 states":             ring(2000, eachByte()),
		"2,000 states, cut":        with(ring(2000, eachByte(), 1999), func(d *api.Dfa) { d.Next[1000] = make([]int, 256) }),
	}
}

// notValid is machines each of which has one fault. The start of most of them ends a word.
func notValid() map[string]api.Dfa {
	turned := func(turn func(d *api.Dfa)) api.Dfa {
		return with(dfa(ab, "123*", "111", "421", "414", "444*"), turn)
	}
	return map[string]api.Dfa{
		"nothing":                    {},
		"no states":                  {Next: [][]int{}, Ends: []bool{}},
		"no states, but an end":      {Ends: []bool{true}},
		"no states, but classes":     {Class: ab},
		"no Ends":                    turned(func(d *api.Dfa) { d.Ends = nil }),
		"an end too few":             turned(func(d *api.Dfa) { d.Ends = d.Ends[:4] }),
		"an end too many":            turned(func(d *api.Dfa) { d.Ends = append(d.Ends, false) }),
		"a class too many":           turned(func(d *api.Dfa) { d.Class['x'] = 3 }),
		"class 255":                  turned(func(d *api.Dfa) { d.Class['x'] = 255 }),
		"a class too few":            turned(func(d *api.Dfa) { d.Class = a }),
		"an empty row":               {Next: [][]int{{}}, Ends: []bool{true}},
		"a nil row":                  turned(func(d *api.Dfa) { d.Next[4] = nil }),
		"a short row":                turned(func(d *api.Dfa) { d.Next[0] = d.Next[0][:2] }),
		"a long row":                 turned(func(d *api.Dfa) { d.Next[2] = append(d.Next[2], 0) }),
		"below":                      turned(func(d *api.Dfa) { d.Next[0][0] = -1 }),
		"far below":                  turned(func(d *api.Dfa) { d.Next[4][2] = lowest }),
		"behind":                     turned(func(d *api.Dfa) { d.Next[3][1] = 5 }),
		"far behind":                 turned(func(d *api.Dfa) { d.Next[0][2] = greatest }),
		"behind, by no byte":         with(dfa(classes(1), "00*"), func(d *api.Dfa) { d.Next[0][0] = 1 }),
		"behind, from a state aside": with(dfa(all, "0*", "1"), func(d *api.Dfa) { d.Next[1][0] = 2 }),
		"2,001 states":               ring(2001, all, 0, 1, 2, 3),
		"very many states":           ring(1<<18, all, 0, 1, 2, 3),
		"very many nil rows":         {Next: make([][]int, 1<<20), Ends: slices.Repeat([]bool{true}, 1<<20)},
	}
}

// taken asks all of d, up to words of n bytes, and tells whether it takes any word.
func taken(d api.Dfa, n int) bool {
	w, is := Shortest(d)
	is = is || len(w) > 0
	for _, n := range []int{lowest, -1, 0, 1, 2, 3, n} {
		is = is || Count(d, n) > 0
		for _, most := range []int{lowest, -1, 0, 1, 1000, greatest} {
			is = is || len(Words(d, n, most)) > 0
		}
	}
	return is
}

// P14.1, P14.2: machines that take no word, and those that are not valid.
func TestNone(t *testing.T) {
	for name, d := range none() {
		if !machine.May(d) || taken(d, 40) {
			t.Error(name)
		}
	}
	for name, d := range notValid() {
		if machine.May(d) || taken(d, 200) || taken(d, greatest) {
			t.Error(name)
		}
	}
}

// raised is base to the power of n, modulo 2^64.
func raised(base uint64, n int) uint64 {
	x := uint64(1)
	for range n {
		x *= base
	}
	return x
}

// P14.2: how many words there are, of machines made by hand.
func TestCount(t *testing.T) {
	for _, x := range []struct {
		name string
		d    api.Dfa
		n    int
		want uint64
	}{
		{"all words", dfa(all, "0*"), 0, 1},
		{"all words", dfa(all, "0*"), 1, 256},
		{"all words", dfa(all, "0*"), 2, 65536},
		{"all words", dfa(all, "0*"), 7, 1 << 56},
		{"all words", dfa(all, "0*"), 8, 0},
		{"all words", dfa(all, "0*"), 9, 0},
		{"all words", dfa(all, "0*"), 1000, 0},
		{"all words, each byte by itself", ring(1, eachByte(), 0), 3, 1 << 24},
		{"all words but the empty one", dfa(all, "1", "1*"), 0, 0},
		{"all words but the empty one", dfa(all, "1", "1*"), 1, 256},
		{"the empty word", dfa(all, "1*", "1"), 0, 1},
		{"the empty word", dfa(all, "1*", "1"), 1, 0},
		{"no a", dfa(a, "01*", "11"), 1, 255},
		{"no a", dfa(a, "01*", "11"), 2, 255 * 255},
		{"no a", dfa(a, "01*", "11"), 8, 17878103347812890625},
		{"no a", dfa(a, "01*", "11"), 9, raised(255, 9)},
		{"no a", dfa(a, "01*", "11"), 999, raised(255, 999)},
		{"no a", dfa(a, "01*", "11"), 1000, raised(255, 1000)},
		{"no a", dfa(a, "01*", "11"), 1001, raised(255, 1000)},
		{"no a", dfa(a, "01*", "11"), 1 << 32, raised(255, 1000)},
		{"no a", dfa(a, "01*", "11"), greatest, raised(255, 1000)},
		{"no a", dfa(a, "01*", "11"), -1, 0},
		{"no a", dfa(a, "01*", "11"), -1000, 0},
		{"no a", dfa(a, "01*", "11"), lowest, 0},
		{"an a", dfa(a, "01", "11*"), 8, 1<<64 - 17878103347812890625},
		{"a alone", dfa(a, "10*", "11"), 0, 1},
		{"a alone", dfa(a, "10*", "11"), 1000, 1},
		{"a alone", dfa(a, "10*", "11"), greatest, 1},
		{"a or b, by two classes", dfa(ab, "100*", "111"), 63, 1 << 63},
		{"a or b, by two classes", dfa(ab, "100*", "111"), 64, 0},
		{"a or b, by two ways", dfa(ab, "312", "311", "322*", "333"), 10, 1 << 9},
		{"999 letters", only(1001), 999, 1},
		{"1,000 letters", only(1002), 1000, 1},
		{"1,000 letters", only(1002), 999, 0},
		{"1,000 letters", only(1002), 1001, 1},
		{"1,000 letters", only(1002), greatest, 1},
		{"1,001 letters", only(1003), 1001, 0},
		{"1,001 letters", only(1003), greatest, 0},
		{"a ring", ring(7, a, 3), 3, 1 << 24},
		{"a ring", ring(7, a, 3), 4, 0},
		{"a ring", ring(7, a, 3, 4), 4, 1 << 32},
		{"a class that no byte has", dfa(classes(2, "a"), "012", "111*", "222*"), 1, 255},
		{"by a class that no byte has", dfa(classes(2, "a"), "010", "111*"), 5, 0},
		{"nothing leads there", dfa(a, "00", "11*"), 5, 0},
	} {
		if got := Count(x.d, x.n); got != x.want {
			t.Errorf("%s, %d bytes: %d, not %d", x.name, x.n, got, x.want)
		}
	}
	// No a next to an a, among words of a and b: the numbers of Fibonacci, modulo 2^64 soon.
	d := dfa(ab, "210*", "220*", "222")
	this, next := uint64(1), uint64(2)
	for n := range 1001 {
		if got := Count(d, n); got != this {
			t.Errorf("no a next to an a, %d bytes: %d, not %d", n, got, this)
		}
		this, next = next, this+next
	}
}

// P14.2: the first words of machines made by hand.
func TestWords(t *testing.T) {
	for i, x := range []struct {
		d       api.Dfa
		n, most int
		want    []string
	}{
		{dfa(all, "0*"), 0, 1, []string{""}},
		{dfa(all, "0*"), 0, 1000, []string{""}},
		{dfa(all, "1", "1*"), 0, 5, nil},
		{dfa(all, "0*"), 1, 3, []string{"\x00", "\x01", "\x02"}},
		{dfa(all, "0*"), 2, 3, []string{"\x00\x00", "\x00\x01", "\x00\x02"}},
		{dfa(ab, "111", "111*"), 1, 1, []string{"\x00"}},
		{dfa(ab, "100*", "111"), 2, 1000, []string{"aa", "ab", "ba", "bb"}},
		{dfa(ab, "100*", "111"), 2, 4, []string{"aa", "ab", "ba", "bb"}},
		{dfa(ab, "100*", "111"), 2, 3, []string{"aa", "ab", "ba"}},
		{dfa(ab, "100*", "111"), 2, 2, []string{"aa", "ab"}},
		{dfa(ab, "100*", "111"), 2, 1, []string{"aa"}},
		{dfa(ab, "100*", "111"), 3, 9, []string{"aaa", "aab", "aba", "abb", "baa", "bab", "bba", "bbb"}},
		// By bytes, not by classes or states.
		{dfa(classes(4, "d", "c", "b", "a"), "31213", "33333*", "33333*", "33333"), 1, 9, []string{"a", "b", "c"}},
		{dfa(classes(4, "b", "\xff", "\x80", "\x7f"), "00001*", "11111"), 1, 9, []string{"b", "\x7f", "\x80", "\xff"}},
		{dfa(classes(2, "ca", "db"), "002*", "111", "222"), 2, 6, []string{"aa", "ab", "ac", "ad", "ba", "bb"}},
		{dfa(ab, "321", "343", "334", "333", "333*"), 2, 9, []string{"ab", "ba"}},
		{dfa(ab, "321", "344", "344", "333", "333*"), 2, 9, []string{"aa", "ab", "ba", "bb"}},
		// No word twice, and those of other lengths aside.
		{dfa(ab, "413", "424*", "434", "444*", "444"), 1, 9, []string{"a", "b"}},
		{dfa(ab, "413", "424*", "434", "444*", "444"), 2, 9, nil},
		{dfa(ab, "413", "424*", "434", "444*", "444"), 3, 9, []string{"aaa"}},
		{dfa(ab, "411", "422", "433", "444*", "444"), 3, 9, []string{"aaa", "aab", "aba", "abb", "baa", "bab", "bba", "bbb"}},
		{dfa(ab, "413", "424*", "434", "444*", "444"), 4, 9, nil},
		{ring(7, a, 3), 3, 2, []string{"\x00\x00\x00", "\x00\x00\x01"}},
		{ring(7, a, 3), 4, 2, nil},
		// How long words may be.
		{dfa(a, "10*", "11"), 199, 9, []string{strings.Repeat("a", 199)}},
		{dfa(a, "10*", "11"), 200, 9, []string{strings.Repeat("a", 200)}},
		{dfa(a, "10*", "11"), 201, 9, nil},
		{dfa(a, "10*", "11"), 1000, 9, nil},
		{dfa(a, "10*", "11"), 1 << 32, 9, nil},
		{dfa(a, "10*", "11"), greatest, 9, nil},
		{dfa(a, "10*", "11"), -1, 9, nil},
		{dfa(a, "10*", "11"), -200, 9, nil},
		{dfa(a, "10*", "11"), lowest, 9, nil},
		{only(202), 200, 9, []string{strings.Repeat("a", 200)}},
		{only(203), 200, 9, nil},
		{only(203), 201, 9, nil},
		// How many there may be.
		{dfa(a, "10*", "11"), 3, 0, nil},
		{dfa(a, "10*", "11"), 3, -1, nil},
		{dfa(a, "10*", "11"), 3, -1000, nil},
		{dfa(a, "10*", "11"), 3, lowest, nil},
		{dfa(a, "10*", "11"), 3, greatest, []string{"aaa"}},
		{dfa(all, "0*"), 0, 0, nil},
		// A class that no byte has is no way to anywhere.
		{dfa(classes(2, "a"), "012", "111*", "222"), 3, 9, nil},
		{dfa(classes(2, "\x00"), "012", "111*", "222*"), 1, 2, []string{"\x01", "\x02"}},
	} {
		if got := texts(Words(x.d, x.n, x.most)); !slices.Equal(got, x.want) {
			t.Errorf("%d: %.50q, not %.50q", i, got, x.want)
		}
	}
}

// counts is how many words of n bytes lead from each state of d to an end, byte by byte.
func counts(d api.Dfa, n int) []*big.Int {
	l := make([]*big.Int, len(d.Next))
	if n == 0 {
		for s := range l {
			l[s] = new(big.Int)
			if d.Ends[s] {
				l[s].SetInt64(1)
			}
		}
		return l
	}
	rest := counts(d, n-1)
	for s := range l {
		l[s] = new(big.Int)
		for b := range 256 {
			l[s].Add(l[s], rest[d.Next[s][d.Class[b]]])
		}
	}
	return l
}

// place is the word of n bytes that d takes and that has so many such ahead of it, by how many there are.
func place(d api.Dfa, n int, ahead *big.Int) (w []byte) {
	at := 0
	ahead = new(big.Int).Set(ahead)
	for ; n > 0; n-- {
		rest := counts(d, n-1)
		b := 0
		for rest[d.Next[at][d.Class[b]]].Cmp(ahead) <= 0 {
			ahead.Sub(ahead, rest[d.Next[at][d.Class[b]]])
			b++
		}
		w, at = append(w, byte(b)), d.Next[at][d.Class[b]]
	}
	return w
}

// held holds the words of n bytes that d takes against how many there are, in true numbers. It returns how many.
func held(t testing.TB, d api.Dfa, n, most int) *big.Int {
	t.Helper()
	before := with(d, func(*api.Dfa) {})
	count := counts(d, n)[0]
	if got, want := Count(d, n), new(big.Int).And(count, new(big.Int).SetUint64(1<<64-1)); got != want.Uint64() {
		t.Fatalf("%.1000s: %d words of %d bytes, not %s", tell(d), got, n, want)
	}
	words := Words(d, n, most)
	if want := min(most, 1000); count.Cmp(big.NewInt(int64(want))) < 0 && int64(len(words)) != count.Int64() || count.Cmp(big.NewInt(int64(want))) >= 0 && len(words) != want {
		t.Fatalf("%.1000s: %d words of %d bytes, at most %d of %s", tell(d), len(words), n, most, count)
	}
	for i, w := range words {
		if len(w) != n || !machine.Run(d, w) || i > 0 && bytes.Compare(words[i-1], w) >= 0 {
			t.Fatalf("%.1000s: word %d of %d bytes: %.50q", tell(d), i, n, w)
		}
	}
	if i := len(words) - 1; i >= 0 && !bytes.Equal(words[i], place(d, n, big.NewInt(int64(i)))) {
		t.Fatalf("%.1000s: word %d of %d bytes: %.50q, not %.50q", tell(d), i, n, words[i], place(d, n, big.NewInt(int64(i))))
	}
	if !machine.Same(d, before) {
		t.Fatalf("changed: %.1000s", tell(d))
	}
	return count
}

// heldShortest holds the shortest word against the lengths below it, in true numbers. It returns how long the word is, or -1.
func heldShortest(t testing.TB, d api.Dfa) int {
	t.Helper()
	w, is := Shortest(d)
	if !is && len(w) > 0 {
		t.Fatalf("%.1000s: no word, but %.50q", tell(d), w)
	}
	for n := range len(d.Next) {
		if n == len(w) && is {
			first := place(d, n, new(big.Int))
			if l := Words(d, n, 1); !bytes.Equal(w, first) || !machine.Run(d, w) || n <= api.MaxWord && (len(l) != 1 || !bytes.Equal(l[0], w)) {
				t.Fatalf("%.1000s: %.50q, not %.50q", tell(d), w, first)
			}
			return n
		}
		if Count(d, n) != 0 || counts(d, n)[0].Sign() != 0 {
			t.Fatalf("%.1000s: %.50q, %t, but some have %d bytes", tell(d), w, is, n)
		}
	}
	if is {
		t.Fatalf("%.1000s: %d bytes", tell(d), len(w))
	}
	return -1
}

// grown is a valid machine of n states at random, of classes that may have no byte, and with few ends, if any.
func grown(numbers *rand.Rand, n, most int) api.Dfa {
	count := 1 + numbers.Intn(most)
	d := api.Dfa{}
	for b := range d.Class {
		d.Class[b] = uint8(numbers.Intn(count))
	}
	if numbers.Intn(2) == 0 {
		for b := range d.Class {
			d.Class[b] = 0
		}
		for range numbers.Intn(9) {
			d.Class[numbers.Intn(256)] = uint8(numbers.Intn(count))
		}
	}
	d.Class[numbers.Intn(256)] = uint8(count - 1)
	few := 1 + numbers.Intn(n)
	for s := range n {
		var row []int
		for range count {
			to := (s + numbers.Intn(few)) % n
			if numbers.Intn(3) == 0 {
				to = n - 1
			}
			row = append(row, to)
		}
		d.Next, d.Ends = append(d.Next, row), append(d.Ends, numbers.Intn(n) == 0)
	}
	return d
}

// P14.1, P14.2 and what follows: machines of many sizes, held against true numbers.
func TestGrown(t *testing.T) {
	numbers := rand.New(rand.NewSource(14))
	var lengths [20]int
	none, wrapped := 0, 0
	for i := range 1200 {
		d := grown(numbers, 1+i%12, 1+i%6)
		if n := heldShortest(t, d); n < 0 {
			none++
		} else {
			lengths[n]++
		}
		for _, n := range []int{0, 1, 2, 3, 4 + i%9} {
			if count := held(t, d, n, 1+numbers.Intn(40)); count.BitLen() > 64 {
				wrapped++
			}
		}
		if i%40 == 0 {
			held(t, d, 1+i%3, 2000)
			held(t, d, 20+i%17, 999+i%3)
		}
	}
	if none < 50 || lengths[0] < 100 || lengths[1] < 100 || lengths[2] < 50 || lengths[3] < 20 || lengths[4] < 5 || wrapped < 100 {
		t.Errorf("%d have no word, %v by lengths, %d wrapped", none, lengths, wrapped)
	}
}

// P14.2: all words of two bytes, by asking for each.
func TestEachWord(t *testing.T) {
	numbers := rand.New(rand.NewSource(15))
	for i := range 60 {
		d := grown(numbers, 2+i%6, 4)
		var want []string
		for w := range 1 << 16 {
			if w := []byte{byte(w >> 8), byte(w)}; machine.Run(d, w) {
				want = append(want, string(w))
			}
		}
		if got := Count(d, 2); got != uint64(len(want)) {
			t.Fatalf("%s: %d words, not %d", tell(d), got, len(want))
		}
		for _, most := range []int{1, 2, 17, 999, 1000, 1001, 70000, greatest} {
			if got := texts(Words(d, 2, most)); !slices.Equal(got, want[:min(len(want), most, 1000)]) {
				t.Fatalf("%s: most %d: %d words, %.200q", tell(d), most, len(got), got)
			}
		}
	}
}

// small is the machine of n states whose numbers are the figures of rows, to the base n, and whose ends are the bits of ends. It has two classes.
func small(class [256]uint8, n, rows, ends int) api.Dfa {
	d := api.Dfa{Class: class}
	for s := range n {
		d.Next = append(d.Next, []int{rows % n, rows / n % n})
		d.Ends = append(d.Ends, ends>>s&1 == 1)
		rows /= n * n
	}
	return d
}

// P14.1, P14.2: all machines of at most three states and two classes, of which one may have no byte.
func TestAllSmall(t *testing.T) {
	for _, class := range [][256]uint8{a, classes(1, "\x00"), classes(1)} {
		for n, rows := range []int{0, 1, 16, 729} {
			for i := range rows << n {
				d := small(class, n, i>>n, i)
				if n > 0 {
					heldShortest(t, d)
					held(t, d, 2, 3)
					held(t, d, 3, 300)
				}
			}
		}
	}
}

// P14.1, P14.2: each byte may be the one that leads to an end, and the one that doesn't.
func TestEachByte(t *testing.T) {
	for b := range 256 {
		letter := string([]byte{byte(b)})
		first := "\x00"
		if b == 0 {
			first = "\x01"
		}
		to, past := dfa(classes(0, "", letter), "01", "22*", "22"), dfa(classes(0, "", letter), "10", "22*", "22")
		for i, x := range []struct {
			d     api.Dfa
			want  string
			count uint64
		}{{to, letter, 1}, {past, first, 255}} {
			if w, is := Shortest(x.d); !is || string(w) != x.want {
				t.Errorf("byte %d, %d: %q, %t, not %q", b, i, w, is, x.want)
			}
			if l := Words(x.d, 1, 300); Count(x.d, 1) != x.count || uint64(len(l)) != x.count || string(l[0]) != x.want {
				t.Errorf("byte %d, %d: %q", b, i, l)
			}
		}
	}
}

// P14.2: words are listed where Count is 0, since their number is a multiple of 2^64.
func TestManyWords(t *testing.T) {
	d := dfa(all, "0*")
	for _, n := range []int{8, 9, 100, 200} {
		for _, most := range []int{1, 255, 256, 257, 999, 1000, 1001, 65536, 1 << 32, greatest} {
			l := Words(d, n, most)
			if Count(d, n) != 0 || len(l) != min(most, 1000) {
				t.Fatalf("%d bytes, most %d: %d of %d", n, most, len(l), Count(d, n))
			}
			for i, w := range l {
				if want := append(make([]byte, n-2), byte(i>>8), byte(i)); !bytes.Equal(w, want) {
					t.Fatalf("%d bytes, word %d: %q", n, i, w)
				}
			}
		}
	}
}

// P14.2: far more ways lead nowhere than lead to a word, or lead to words of other lengths: they are not gone through one by one.
func TestDeadEnds(t *testing.T) {
	long := strings.Repeat("\x00", 199)
	for name, x := range map[string]struct {
		d    api.Dfa
		want []string
	}{
		// By any byte ahead of z words go on for ever, and none ends.
		"by the first byte": {dfa(classes(0, "", "z"), "12", "11", "22*"), []string{"z" + long, "z" + long[1:] + "\x01"}},
		// By a all words that go on are left, but none of an even number of bytes.
		"by length": {dfa(ab, "412", "433*", "422*", "411", "444"), []string{"b" + strings.Repeat("a", 199), "b" + strings.Repeat("a", 198) + "b"}},
		// By the last byte alone a word ends or doesn't.
		"by the last byte": {dfa(classes(0, "", "\xff"), "01", "01*"), []string{long + "\xff", long[1:] + "\x01\xff"}},
		// A word ends only if its last hundred bytes are z.
		"by the second half": {ends(100), []string{long[:100] + strings.Repeat("z", 100), long[:99] + "\x01" + strings.Repeat("z", 100)}},
		// A ring of 100 states, which a z leads to the next but one of.
		"by sums": {with(ring(100, classes(0, "", "z"), 99), func(d *api.Dfa) {
			for s := range d.Next {
				d.Next[s][1] = (s + 2) % 100
			}
		}), []string{long[:101] + strings.Repeat("z", 99), long[:100] + "\x01" + strings.Repeat("z", 99)}},
	} {
		for most := range x.want {
			if got := texts(Words(x.d, 200, most+1)); !slices.Equal(got, x.want[:most+1]) {
				t.Errorf("%s: %q, not %q", name, got, x.want[:most+1])
			}
		}
		held(t, x.d, 30, 1000)
	}
}

// ends is a machine of the words that end in n letters z.
func ends(n int) api.Dfa {
	d := ring(n+1, classes(0, "", "z"), n)
	for s := range d.Next {
		d.Next[s][0] = 0
	}
	d.Next[n][1] = n
	return d
}

// P14.1, P14.2: as many states and classes as there may be, and words as long.
func TestLarge(t *testing.T) {
	d := ring(2000, eachByte(), 1999)
	for s := range d.Next {
		for c := range 256 {
			d.Next[s][c] = (s*256 + c) % 2000
		}
	}
	want := 0
	for {
		if counts(d, want)[0].Sign() > 0 {
			break
		}
		want++
	}
	if w, is := Shortest(d); !is || !bytes.Equal(w, place(d, want, new(big.Int))) || want < 2 {
		t.Errorf("%q, %t, not of %d bytes", w, is, want)
	}
	held(t, d, 3, 40)
	// From all states 256 bytes lead to others, and from all 2,000 so many lead to each one as make 256 a state.
	if got := Count(with(d, func(d *api.Dfa) { d.Ends = slices.Repeat([]bool{true}, 2000) }), 7); got != 1<<56 {
		t.Errorf("%d words of 7 bytes", got)
	}
	if got := Count(d, greatest); got != Count(d, 1000) {
		t.Errorf("%d words of 1,000 bytes", got)
	}
	l := Words(d, 200, greatest)
	for i, w := range l {
		if len(w) != 200 || !machine.Run(d, w) || i > 0 && bytes.Compare(l[i-1], w) >= 0 {
			t.Fatalf("word %d: %q", i, w)
		}
	}
	if len(l) != 1000 {
		t.Errorf("%d words", len(l))
	}
	if l := Words(ring(2000, eachByte(), 200), 200, 1); len(l) != 1 || string(l[0]) != strings.Repeat("\x00", 200) {
		t.Errorf("%.20q", l)
	}
	if l := Words(ring(2000, eachByte(), 201), 200, 1); len(l) != 0 {
		t.Errorf("%.20q", l)
	}
}

// R3: arguments are not changed, nor the room behind them.
func TestArguments(t *testing.T) {
	row := []int{1, 0, 2, 9, 9}
	whole := api.Dfa{Class: a, Next: [][]int{row[:2], []int{2, 2, 7, 7}[:2], row[:2], {5, 5}}, Ends: []bool{true, false, true, true}}
	d := whole
	d.Next, d.Ends = d.Next[:3], d.Ends[:3]
	told := func() string {
		var s []string
		for _, r := range whole.Next {
			s = append(s, fmt.Sprint(r[:cap(r)]))
		}
		return fmt.Sprint(s) + tell(whole)
	}
	before := told()
	heldShortest(t, d)
	for n := range 9 {
		held(t, d, n, 1<<n)
	}
	if told() != before {
		t.Fatalf("changed: %s, not %s", told(), before)
	}
}

// R3, R4: answers are new each time, and no list of one shares its room with another or with what was given.
func TestAnswers(t *testing.T) {
	d := dfa(ab, "012", "101", "222*")
	given := tell(d)
	for _, n := range []int{0, 1, 2, 3, 9} {
		want := texts(Words(with(d, func(d *api.Dfa) { d.Ends[0] = true }), n, 300))
		l := Words(with(d, func(d *api.Dfa) { d.Ends[0] = true }), n, 300)
		// Each word gets a byte of its own, all of its room.
		for i, w := range l {
			for at := range w[:cap(w)] {
				w[:cap(w)][at] = byte(i)
			}
		}
		for i, w := range l {
			for at := range w[:cap(w)] {
				if w[:cap(w)][at] != byte(i) {
					t.Fatalf("%d bytes: words %d and another share their room", n, i)
				}
			}
		}
		clear(l[:cap(l)])
		for range 20 {
			if got := texts(Words(with(d, func(d *api.Dfa) { d.Ends[0] = true }), n, 300)); !slices.Equal(got, want) {
				t.Errorf("%d bytes: another answer: %.50q", n, got)
			}
		}
	}
	for range 20 {
		w, is := Shortest(d)
		if string(w) != "b" || !is || Count(d, 2) != 256+254 {
			t.Fatalf("%q, %t, %d", w, is, Count(d, 2))
		}
		for i := range w[:cap(w)] {
			w[:cap(w)][i] = 'x'
		}
	}
	if tell(d) != given {
		t.Error("what was given is changed")
	}
}

// built is the minimal machine of a text.
func built(t testing.TB, text string) api.Dfa {
	t.Helper()
	r, at, e := parse.Parse(text)
	if e != api.OK {
		t.Fatalf("%q: error %d at %d", text, e, at)
	}
	n, e := thompson.Build(r)
	if e != api.OK {
		t.Fatalf("%q: error %d", text, e)
	}
	d, e := subset.Make(n, api.MaxSets)
	if e != api.OK {
		t.Fatalf("%q: error %d", text, e)
	}
	return least.Least(d)
}

// What follows: words of expressions.
func TestExpressions(t *testing.T) {
	for _, x := range []struct {
		text, shortest string
		n              int
		count          uint64
		words          string
	}{
		{"", "", 0, 1, ""},
		{"a", "a", 1, 1, "a"},
		{"b|a|c", "a", 1, 3, "a b c"},
		{"[b-d]x|az*y", "ay", 2, 4, "ay bx cx dx"},
		{"(a|b)*abb", "abb", 5, 4, "aaabb ababb baabb bbabb"},
		{"(ab|ba)+", "ab", 4, 4, "abab abba baab baba"},
		{"(aa)*b|a(aa)*c", "b", 4, 1, "aaac"},
		{"(aa|aaa)+", "aa", 7, 1, "aaaaaaa"},
		{"b+a*|a+b*", "a", 3, 6, "aaa aab abb baa bba bbb"},
		{"[^a]b", "\x00b", 2, 255, "\x00b \x01b \x02b \x03b \x04b \x05b"},
	} {
		d := built(t, x.text)
		w, is := Shortest(d)
		if !is || string(w) != x.shortest {
			t.Errorf("%q: %q, %t, not %q", x.text, w, is, x.shortest)
		}
		if got := Count(d, x.n); got != x.count {
			t.Errorf("%q, %d bytes: %d, not %d", x.text, x.n, got, x.count)
		}
		if got := strings.Join(texts(Words(d, x.n, 6)), " "); got != x.words {
			t.Errorf("%q, %d bytes: %q, not %q", x.text, x.n, got, x.words)
		}
		for n := range 12 {
			held(t, d, n, 20)
		}
		heldShortest(t, d)
	}
	if w, is := Shortest(built(t, "[]|a[]")); is || len(w) > 0 {
		t.Errorf("%q", w)
	}
}

// What follows: a shortest word that tells two expressions apart.
func TestApart(t *testing.T) {
	for _, x := range []struct {
		a, b string
		how  int
		want string
	}{
		{"(a|b)*", "(a*b*)*c?", 4, "c"},
		{"a*b", "ab*", 3, "b"},
		{"ab*", "a*b", 3, "a"},
		{"ab*", "a*b", 1, "ab"},
		{"(aaa)*", "(aaaa)*", 4, "aaa"},
		{"a(aaa)*", "aa(aaaa)*", 1, "aaaaaaaaaa"},
	} {
		d, e := pair.Product(built(t, x.a), built(t, x.b), x.how, 400)
		if w, is := Shortest(d); e != api.OK || !is || string(w) != x.want {
			t.Errorf("%q and %q, %d: error %d, %q, %t, not %q", x.a, x.b, x.how, e, w, is, x.want)
		}
		heldShortest(t, d)
	}
}
