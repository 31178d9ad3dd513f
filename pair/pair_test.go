package pair

import (
	"fmt"
	"math/rand"
	"slices"
	"strings"
	"testing"

	"scriptory/api"
	"scriptory/least"
	"scriptory/machine"
	"scriptory/parse"
	"scriptory/subset"
	"scriptory/thompson"
)

const (
	lowest   = -1 << 63
	greatest = 1<<63 - 1
)

// classes makes a Class of texts: the bytes of the first one have class 0, and so on; all others have class rest.
func classes(rest uint8, texts ...string) (class [256]uint8) {
	for b := range class {
		class[b] = rest
	}
	for c, s := range texts {
		for _, b := range []byte(s) {
			class[b] = uint8(c)
		}
	}
	return class
}

// dfa makes a machine of a text for each state: a figure for each class, and * behind those of one that ends a word.
func dfa(class [256]uint8, rows ...string) api.Dfa {
	d := api.Dfa{Class: class}
	for _, s := range rows {
		figures, end := strings.CutSuffix(s, "*")
		var row []int
		for _, f := range figures {
			row = append(row, int(f-'0'))
		}
		d.Next, d.Ends = append(d.Next, row), append(d.Ends, end)
	}
	return d
}

// The classes of most machines here: all bytes; all but a, and a; all but b, and b; all but a and b, a, and b.
var (
	all = classes(0)
	a   = classes(0, "", "a")
	b   = classes(0, "", "b")
	ab  = classes(0, "", "a", "b")
)

// eachByte has a class for each byte.
func eachByte() (class [256]uint8) {
	for b := range class {
		class[b] = uint8(b)
	}
	return class
}

// ring is a machine of n states, each of which leads to the next one by each byte, and the last one to the first. Those of ends end a word.
func ring(n int, class [256]uint8, ends ...int) api.Dfa {
	d := api.Dfa{Class: class, Ends: make([]bool, n)}
	for s := range n {
		d.Next = append(d.Next, slices.Repeat([]int{(s + 1) % n}, 1+int(slices.Max(class[:]))))
	}
	for _, s := range ends {
		d.Ends[s] = true
	}
	return d
}

// tell writes all of a machine, so that two texts are the same where the machines are.
func tell(d api.Dfa) string {
	rows := make([]string, len(d.Next))
	for s, row := range d.Next {
		rows[s] = fmt.Sprint(row)
	}
	return fmt.Sprint(rows, d.Ends, d.Class)
}

// with is d with something done to a copy of it.
func with(d api.Dfa, turn func(d *api.Dfa)) api.Dfa {
	next := [][]int{}
	for _, row := range d.Next {
		next = append(next, append([]int{}, row...))
	}
	d = api.Dfa{Class: d.Class, Next: next, Ends: append([]bool{}, d.Ends...)}
	turn(&d)
	return d
}

// in tells, by how, whether what is in the first one or not, and in the second one or not, is in the product: one line for each of neither, the first, the second, and both.
var in = [5][4]bool{
	1: {false, false, false, true},
	2: {false, true, true, true},
	3: {false, true, false, false},
	4: {false, true, true, false},
}

// asked asks in of two answers.
func asked(how int, x, y bool) bool {
	at := 0
	if x {
		at++
	}
	if y {
		at += 2
	}
	return in[how][at]
}

// byBytes is the product by its definition, byte by byte: a byte is of the class of the first byte that neither machine tells it from.
func byBytes(x, y api.Dfa, how int) (d api.Dfa) {
	var firsts []int
	for i := range 256 {
		at := slices.IndexFunc(firsts, func(f int) bool { return x.Class[f] == x.Class[i] && y.Class[f] == y.Class[i] })
		if at < 0 {
			at, firsts = len(firsts), append(firsts, i)
		}
		d.Class[i] = uint8(at)
	}
	pairs, numbers := [][2]int{{0, 0}}, map[[2]int]int{{0, 0}: 0}
	for s := 0; s < len(pairs); s++ {
		p := pairs[s]
		var row []int
		for _, f := range firsts {
			to := [2]int{x.Next[p[0]][x.Class[f]], y.Next[p[1]][y.Class[f]]}
			if _, found := numbers[to]; !found {
				numbers[to], pairs = len(pairs), append(pairs, to)
			}
			row = append(row, numbers[to])
		}
		d.Next, d.Ends = append(d.Next, row), append(d.Ends, asked(how, x.Ends[p[0]], y.Ends[p[1]]))
	}
	return d
}

// nothing tells whether d is the zero value.
func nothing(d api.Dfa) bool { return len(d.Next) == 0 && len(d.Ends) == 0 && d.Class == all }

// product is the product of two valid machines that have one.
func product(t testing.TB, x, y api.Dfa, how int) api.Dfa {
	t.Helper()
	d, e := Product(x, y, how, len(x.Next)*len(y.Next))
	if e != api.OK {
		t.Fatalf("%.500s and %.500s, %d: error %d", tell(x), tell(y), how, e)
	}
	return d
}

// held holds the products of two valid machines against the definition, and how many pairs they may have. It returns how many they have.
func held(t testing.TB, x, y api.Dfa) (n int) {
	t.Helper()
	beforeX, beforeY := with(x, func(*api.Dfa) {}), with(y, func(*api.Dfa) {})
	for how := 1; how <= 4; how++ {
		want := byBytes(x, y, how)
		n = len(want.Next)
		for _, most := range []int{len(x.Next) * len(y.Next), n, n + 1, greatest} {
			if got, e := Product(x, y, how, most); e != api.OK || !machine.Same(got, want) {
				t.Fatalf("%.1000s and %.1000s, %d: %d of %d: error %d, %.1000s, not %.1000s", tell(x), tell(y), how, n, most, e, tell(got), tell(want))
			}
		}
		for _, most := range []int{n - 1, n / 2, 0, -1, -n, lowest} {
			if got, e := Product(x, y, how, min(most, n-1)); e != api.ErrBudget || !nothing(got) {
				t.Fatalf("%.1000s and %.1000s, %d: %d of %d: error %d", tell(x), tell(y), how, n, most, e)
			}
		}
	}
	if !machine.Same(x, beforeX) || !machine.Same(y, beforeY) {
		t.Fatalf("changed: %.1000s and %.1000s", tell(x), tell(y))
	}
	return n
}

// P13.1: products of machines made by hand: the ends, by how, of the states of each of them.
func TestProduct(t *testing.T) {
	three := classes(0, "", "a", "b", "c")
	for i, x := range []struct {
		a, b  api.Dfa
		class [256]uint8
		rows  string
		ends  [4]string
	}{
		// One state and one state.
		{dfa(all, "0"), dfa(all, "0"), all, "0", [4]string{"0", "0", "0", "0"}},
		{dfa(all, "0*"), dfa(all, "0"), all, "0", [4]string{"0", "1", "1", "1"}},
		{dfa(all, "0"), dfa(all, "0*"), all, "0", [4]string{"0", "1", "0", "1"}},
		{dfa(all, "0*"), dfa(all, "0*"), all, "0", [4]string{"1", "1", "0", "0"}},
		// One state and several: they stay as they are, but for the ends.
		{dfa(all, "0*"), dfa(ab, "012", "101", "222*"), ab, "012 101 222", [4]string{"001", "111", "110", "110"}},
		{dfa(ab, "012", "101", "222*"), dfa(all, "0"), ab, "012 101 222", [4]string{"000", "001", "001", "001"}},
		// Two rings: all pairs, if no number but 1 goes into both of their lengths.
		{ring(2, all, 1), ring(3, all, 2), all, "1 2 3 4 5 0", [4]string{"000001", "011101", "010100", "011100"}},
		{ring(2, all, 0), ring(4, all, 0), all, "1 2 3 0", [4]string{"1000", "1010", "0010", "0010"}},
		{ring(4, all, 0), ring(2, all, 0), all, "1 2 3 0", [4]string{"1000", "1010", "0000", "0010"}},
		// A machine and itself: pairs of equals alone.
		{dfa(ab, "012", "101", "222*"), dfa(ab, "012", "101", "222*"), ab, "012 101 222", [4]string{"001", "001", "000", "000"}},
		// As many a as 2 goes into, and as many b: bytes that either tells apart are apart.
		{dfa(a, "01*", "10"), dfa(b, "01*", "10"), ab, "012 103 230 321", [4]string{"1000", "1110", "0010", "0110"}},
		{dfa(b, "01*", "10"), dfa(a, "01*", "10"), ab, "012 103 230 321", [4]string{"1000", "1110", "0100", "0110"}},
		// The order is that of the classes of the product, not of theirs: a is ahead of b, both are ahead of c, and c ahead of what is none of them.
		{dfa(classes(1, "b"), "10", "11*"), dfa(classes(1, "a"), "10", "11*"), ab, "012 113 232 333", [4]string{"0001", "0111", "0010", "0110"}},
		{dfa(classes(1, "\x01"), "10", "11*"), dfa(classes(1, "\x00"), "10", "11*"), classes(2, "\x00", "\x01"), "120 131 322 333", [4]string{"0001", "0111", "0010", "0110"}},
		{dfa(classes(1, "\xff\x05"), "10", "11*"), dfa(classes(1, "\x00\xff"), "10", "11*"), classes(1, "\x00", "", "\x05", "\xff"), "1023 1133 3223 3333", [4]string{"0001", "0111", "0010", "0110"}},
		// Pair by pair, by each class: the second pair finds the fourth one, ahead of what the third one leads to.
		{dfa(three, "0120", "3000*", "0400", "0000", "0000*"), dfa(all, "0"), three, "0120 3000 0400 0000 0000", [4]string{"00000", "01001", "01001", "01001"}},
		{dfa(three, "0210", "4000*", "0003", "0000", "0000*"), dfa(all, "0"), three, "0120 0003 4000 0000 0000", [4]string{"00000", "00101", "00101", "00101"}},
		// States that nothing leads to, and pairs that nothing leads to, are none.
		{dfa(a, "00", "11*"), dfa(a, "10", "01", "22*"), a, "10 01", [4]string{"00", "00", "00", "00"}},
		{dfa(ab, "011", "111*"), dfa(ab, "011", "122*", "211"), ab, "011 122 211", [4]string{"010", "011", "001", "001"}},
		// A class that no byte has is no way to anywhere, and no class of the product.
		{dfa(classes(1), "10", "01*"), dfa(all, "0*"), all, "0", [4]string{"0", "1", "0", "1"}},
		{dfa(classes(2, "a"), "012", "120*", "201"), dfa(classes(2, ""), "100", "011"), a, "10 21 02", [4]string{"000", "001", "001", "001"}},
		// The same classes by other numbers are one class all the same.
		{dfa(classes(0, "", "a"), "01", "11*"), dfa(classes(1, "a"), "10", "11*"), a, "01 11", [4]string{"01", "01", "00", "00"}},
	} {
		held(t, x.a, x.b)
		for how := 1; how <= 4; how++ {
			want := dfa(x.class, strings.Fields(x.rows)...)
			for s, f := range x.ends[how-1] {
				want.Ends[s] = f == '1'
			}
			if got := product(t, x.a, x.b, how); tell(got) != tell(want) {
				t.Errorf("%d, how %d: %s, not %s", i, how, tell(got), tell(want))
			}
		}
	}
}

// P13.1: which pairs end a word: of all hows, each pair of one state that does or doesn't and another one.
func TestEnds(t *testing.T) {
	for how := 1; how <= 4; how++ {
		for at, want := range in[how] {
			x := api.Dfa{Next: [][]int{{0}}, Ends: []bool{at&1 == 1}}
			y := api.Dfa{Next: [][]int{{0}}, Ends: []bool{at&2 == 2}}
			if d := product(t, x, y, how); len(d.Ends) != 1 || d.Ends[0] != want {
				t.Errorf("how %d of %t and %t: %v", how, x.Ends[0], y.Ends[0], d.Ends)
			}
		}
	}
}

// notValid is machines each of which has one fault.
func notValid() map[string]api.Dfa {
	turned := func(turn func(d *api.Dfa)) api.Dfa { return with(dfa(ab, "123", "111", "421", "414", "444*"), turn) }
	return map[string]api.Dfa{
		"nothing":                    {},
		"no states":                  {Next: [][]int{}, Ends: []bool{}},
		"no states, but an end":      {Ends: []bool{true}},
		"no states, but classes":     {Class: ab},
		"no Ends":                    turned(func(d *api.Dfa) { d.Ends = nil }),
		"an end too few":             turned(func(d *api.Dfa) { d.Ends = d.Ends[:4] }),
		"an end too many":            turned(func(d *api.Dfa) { d.Ends = append(d.Ends, false) }),
		"a class too many":           turned(func(d *api.Dfa) { d.Class['x'] = 3 }),
		"class 255":                  turned(func(d *api.Dfa) { d.Class['x'] = 255 }),
		"a class too few":            turned(func(d *api.Dfa) { d.Class = a }),
		"an empty row":               {Next: [][]int{{}}, Ends: []bool{true}},
		"a nil row":                  turned(func(d *api.Dfa) { d.Next[4] = nil }),
		"a short row":                turned(func(d *api.Dfa) { d.Next[0] = d.Next[0][:2] }),
		"a long row":                 turned(func(d *api.Dfa) { d.Next[2] = append(d.Next[2], 0) }),
		"below":                      turned(func(d *api.Dfa) { d.Next[0][0] = -1 }),
		"far below":                  turned(func(d *api.Dfa) { d.Next[4][2] = lowest }),
		"behind":                     turned(func(d *api.Dfa) { d.Next[3][1] = 5 }),
		"far behind":                 turned(func(d *api.Dfa) { d.Next[0][2] = greatest }),
		"behind, by no byte":         with(dfa(classes(1), "00"), func(d *api.Dfa) { d.Next[0][0] = 1 }),
		"behind, from a state aside": with(dfa(all, "0", "1"), func(d *api.Dfa) { d.Next[1][0] = 2 }),
		"2,001 states":               ring(2001, all, 2000),
		"very many states":           ring(1<<18, all, 5),
		"very many nil rows":         {Next: make([][]int, 1<<20), Ends: make([]bool, 1<<20)},
	}
}

// P13.1: the errors, and which one goes first.
func TestErrors(t *testing.T) {
	fine := dfa(ab, "123", "111", "401", "414", "444*")
	hows := []int{0, 5, -1, -2, 6, 255, 256, 257, 258, 260, 1 << 32, 1<<32 + 1, lowest, lowest + 1, greatest, greatest - 1}
	mosts := []int{lowest, -1, 0, 1, 4, 5, 2000, greatest}
	hold := func(name string, x, y api.Dfa, how, most int, want api.Errno) {
		t.Helper()
		if d, e := Product(x, y, how, most); e != want || !nothing(d) {
			t.Errorf("%s: how %d, most %d: error %d, not %d, %.100s", name, how, most, e, want, tell(d))
		}
	}
	for _, most := range mosts {
		for _, how := range hows {
			hold("fine", fine, fine, how, most, api.ErrArg)
		}
		for name, bad := range notValid() {
			for how := 1; how <= 4; how++ {
				hold("first: "+name, bad, fine, how, most, api.ErrForm)
				hold("second: "+name, fine, bad, how, most, api.ErrForm)
			}
			hold("both: "+name, bad, bad, 1, most, api.ErrForm)
			for _, how := range hows {
				hold("first: "+name, bad, fine, how, most, api.ErrArg)
				hold("second: "+name, fine, bad, how, most, api.ErrArg)
			}
		}
	}
	for how := 1; how <= 4; how++ {
		for _, most := range []int{lowest, -5, -1, 0, 1, 4} {
			hold("fine", fine, fine, how, most, api.ErrBudget)
		}
		for _, most := range []int{lowest, -1, 0} {
			hold("one state", dfa(all, "0"), dfa(all, "0"), how, most, api.ErrBudget)
		}
	}
	if n := held(t, fine, fine); n != 5 {
		t.Errorf("%d pairs", n)
	}
}

// grown is a valid machine of n states at random, of classes that may have no byte.
func grown(numbers *rand.Rand, n, most int) api.Dfa {
	count := 1 + numbers.Intn(most)
	d := api.Dfa{}
	for b := range d.Class {
		d.Class[b] = uint8(numbers.Intn(count))
	}
	if numbers.Intn(2) == 0 {
		for b := range d.Class {
			d.Class[b] = uint8(b * count / 256)
		}
	}
	if unused := uint8(numbers.Intn(count)); numbers.Intn(3) == 0 {
		for b, c := range d.Class {
			if c == unused {
				d.Class[b] = uint8(count - 1)
			}
		}
	}
	d.Class[numbers.Intn(256)] = uint8(count - 1)
	few := 1 + numbers.Intn(n)
	for s := range n {
		var row []int
		for range count {
			row = append(row, (s+numbers.Intn(few))%n)
		}
		d.Next, d.Ends = append(d.Next, row), append(d.Ends, numbers.Intn(3) == 0)
	}
	return d
}

// P13.1 and what follows: machines of many sizes, held against the definition, and words of them.
func TestGrown(t *testing.T) {
	numbers := rand.New(rand.NewSource(13))
	most := 0
	for i := range 1500 {
		x, y := grown(numbers, 1+i%9, 1+i%5), grown(numbers, 1+i%11, 1+i%7)
		most = max(most, held(t, x, y))
		for how := 1; how <= 4; how++ {
			d := product(t, x, y, how)
			if !machine.May(d) {
				t.Fatalf("%s and %s, %d: not valid", tell(x), tell(y), how)
			}
			for range 40 {
				w := make([]byte, numbers.Intn(12))
				numbers.Read(w)
				if inX, inY := machine.Run(x, w), machine.Run(y, w); machine.Run(d, w) != asked(how, inX, inY) {
					t.Fatalf("%s and %s, %d: %q: %t and %t", tell(x), tell(y), how, w, inX, inY)
				}
			}
		}
	}
	if most < 60 {
		t.Errorf("at most %d pairs", most)
	}
}

// small is the machine of n states whose numbers are the figures of rows, to the base n, and whose ends are the bits of ends. It has two classes.
func small(class [256]uint8, n, rows, ends int) api.Dfa {
	d := api.Dfa{Class: class}
	for s := range n {
		d.Next = append(d.Next, []int{rows % n, rows / n % n})
		d.Ends = append(d.Ends, ends>>s&1 == 1)
		rows /= n * n
	}
	return d
}

// P13.1: all machines of at most two states and two classes, by twos, of the same classes and of others.
func TestAllSmall(t *testing.T) {
	for _, class := range [][256]uint8{a, classes(1, "a"), b, classes(1, "\x00a"), classes(1)} {
		for i := range 17 * 17 * 16 {
			first, second, ends := i%17, i/17%17, i/17/17
			x, y := small(a, 1, 0, ends), small(class, 1, 0, ends>>2)
			if first > 0 {
				x = small(a, 2, first-1, ends)
			}
			if second > 0 {
				y = small(class, 2, second-1, ends>>2)
			}
			held(t, x, y)
		}
	}
}

// P13.1: each byte may be the one that tells the classes of one machine apart.
func TestEachByte(t *testing.T) {
	for i := range 256 {
		x := dfa(classes(0, "", string([]byte{byte(i)})), "01", "11*")
		for _, j := range []int{0, 1, 127, 128, 254, 255, i} {
			y := dfa(classes(1, string([]byte{byte(j)})), "10", "11*")
			d := product(t, x, y, 4)
			wantClasses, wantPairs := 3, 4
			if i == j {
				wantClasses, wantPairs = 2, 2
			}
			if held(t, x, y) != wantPairs || machine.Classes(d) != wantClasses {
				t.Errorf("bytes %d and %d: %s", i, j, tell(d))
			}
		}
	}
	each := ring(3, eachByte(), 1)
	turned := with(each, func(d *api.Dfa) {
		for i := range d.Class {
			d.Class[i] = uint8(255 - i)
		}
	})
	for i, y := range []api.Dfa{each, turned, dfa(all, "0"), dfa(ab, "012", "101", "222*")} {
		held(t, each, y)
		held(t, y, each)
		if d := product(t, y, turned, 1); machine.Classes(d) != 256 || d.Class != eachByte() {
			t.Errorf("%d: %v", i, d.Class)
		}
	}
	// Two times 16 classes of 16 bytes each are 256.
	rows, columns := ring(1, all), ring(1, all)
	for i := range 256 {
		rows.Class[i], columns.Class[i] = uint8(i/16), uint8(15-i%16)
	}
	rows.Next, columns.Next = [][]int{make([]int, 16)}, [][]int{make([]int, 16)}
	if d := product(t, rows, columns, 2); d.Class != eachByte() || !slices.Equal(d.Next[0], make([]int, 256)) {
		t.Errorf("rows and columns: %s", tell(d))
	}
}

// P13.1: as many states as may be: all pairs of two rings, of which a product has them in the order of their words.
func TestLarge(t *testing.T) {
	x, y := ring(2000, all, 0, 7), ring(1999, all, 0, 7)
	n := 2000 * 1999
	d, e := Product(x, y, 4, n)
	if e != api.OK || len(d.Next) != n || len(d.Ends) != n {
		t.Fatalf("error %d, %d states", e, len(d.Next))
	}
	for s, row := range d.Next {
		inX, inY := s%2000 == 0 || s%2000 == 7, s%1999 == 0 || s%1999 == 7
		if len(row) != 1 || row[0] != (s+1)%n || d.Ends[s] != (inX != inY) {
			t.Fatalf("state %d: %v, %t", s, row, d.Ends[s])
		}
	}
	for _, most := range []int{n - 1, 1000} {
		if d, e := Product(x, y, 2, most); e != api.ErrBudget || !nothing(d) {
			t.Errorf("most %d: error %d", most, e)
		}
	}
	if held(t, ring(2000, classes(255), 3), ring(2000, eachByte(), 4)) != 2000 {
		t.Error("2,000 states, 256 classes")
	}
}

// P13.1: a product of far more pairs than may be says so, and soon: neither its rows nor all of its pairs have room anywhere.
func TestFarTooMany(t *testing.T) {
	x, y := ring(2000, eachByte(), 5), ring(1999, eachByte(), 6)
	for s := range 2000 {
		for c := range 256 {
			x.Next[s][c] = (s*7 + c*c*31 + c) % 2000
			y.Next[s%1999][c] = (s*c + 17*c) % 1999
		}
	}
	for _, most := range []int{0, 1, 300, 2000, 100000} {
		if d, e := Product(x, y, 4, most); e != api.ErrBudget || !nothing(d) {
			t.Errorf("most %d: error %d", most, e)
		}
	}
	if d, e := Product(ring(2000, eachByte()), ring(1999, eachByte()), 1, 200000); e != api.ErrBudget || !nothing(d) {
		t.Errorf("rings: error %d", e)
	}
}

// R3: arguments are not changed, nor the room behind them.
func TestArguments(t *testing.T) {
	row := []int{1, 0, 2, 9, 9}
	whole := api.Dfa{Class: a, Next: [][]int{row[:2], []int{2, 2, 7, 7}[:2], row[:2], {5, 5}}, Ends: []bool{true, false, true, true}}
	d := whole
	d.Next, d.Ends = d.Next[:3], d.Ends[:3]
	told := func() string {
		var s []string
		for _, r := range whole.Next {
			s = append(s, fmt.Sprint(r[:cap(r)]))
		}
		return fmt.Sprint(s) + tell(whole)
	}
	before := told()
	for how := range 6 {
		for _, most := range []int{0, 2, 1000} {
			for _, y := range []api.Dfa{d, dfa(ab, "012", "101", "222*"), {}} {
				Product(d, y, how, most)
				Product(y, d, how, most)
			}
		}
	}
	if told() != before {
		t.Fatalf("changed: %s, not %s", told(), before)
	}
	held(t, d, d)
	held(t, d, dfa(ab, "012", "101", "222*"))
}

// R3, R4: answers are new each time, and no list of one shares its room with another or with what was given.
func TestAnswers(t *testing.T) {
	x, y := dfa(ab, "012", "101", "222*"), dfa(all, "0*")
	given := tell(x) + tell(y)
	for how := 1; how <= 4; how++ {
		d := product(t, x, y, how)
		want := tell(d)
		// Each row gets a number of its own, all of its room.
		for s, row := range d.Next {
			for c := range row[:cap(row)] {
				row[:cap(row)][c] = -s
			}
		}
		for s, row := range d.Next {
			for c := range row[:cap(row)] {
				if row[:cap(row)][c] != -s {
					t.Fatalf("rows %d and %d share their room", s, -row[:cap(row)][c])
				}
			}
		}
		for s := range d.Ends {
			d.Ends[s] = !d.Ends[s]
		}
		clear(d.Next)
		if tell(x)+tell(y) != given {
			t.Error("what was given is changed")
		}
		for range 20 {
			if tell(product(t, x, y, how)) != want {
				t.Error("another answer")
			}
		}
	}
}

// built is the machine of a text, as subset makes it.
func built(t testing.TB, text string) api.Dfa {
	t.Helper()
	r, at, e := parse.Parse(text)
	if e != api.OK {
		t.Fatalf("%q: error %d at %d", text, e, at)
	}
	n, e := thompson.Build(r)
	if e != api.OK {
		t.Fatalf("%q: error %d", text, e)
	}
	d, e := subset.Make(n, api.MaxSets)
	if e != api.OK {
		t.Fatalf("%q: error %d", text, e)
	}
	return d
}

// What follows: the intersection, the union, the difference and the symmetric difference of expressions, written as expressions of their own.
func TestExpressions(t *testing.T) {
	for _, x := range []struct {
		a, b string
		want [4]string
	}{
		{"", "", [4]string{"", "", "[]", "[]"}},
		{"[]", "a", [4]string{"[]", "a", "[]", "a"}},
		{"a", "b", [4]string{"[]", "a|b", "a", "[ab]"}},
		{"a", "[]", [4]string{"[]", "a", "a", "a"}},
		{"[^]*", "a", [4]string{"a", "[^]*", "|[^a]|[^][^]+", "([^]|)[^][^]|()|[^a]|[^]*[^][^]"}},
		{"a*", "(aa)*", [4]string{"(aa)*", "a*", "a(aa)*", "a(aa)*"}},
		{"(aa)*", "(aaa)*", [4]string{"(aaaaaa)*", "(aa)*|(aaa)*", "(aaaaaa)*(aa|aaaa)", "(aaaaaa)*(aa|aaa|aaaa)"}},
		{"a*b*", "b*a*", [4]string{"a*|b*", "a*b*|b*a*", "a+b+", "a+b+|b+a+"}},
		{"[a-m]x", "[k-z]x|y", [4]string{"[k-m]x", "[a-z]x|y", "[a-j]x", "[a-jn-z]x|y"}},
		{"[^]*a", "a[^]*", [4]string{"a([^]*a)?", "[^]*a|a[^]*", "[^a][^]*a", "[^a][^]*a|a[^]*[^a]"}},
		{"(a|b)*abb", "(a|b)*b", [4]string{"(a|b)*abb", "(a|b)*b", "[]", "b|bb|ab|(a|b)*(aab|bab|bbb)"}},
	} {
		p, q := built(t, x.a), built(t, x.b)
		held(t, p, q)
		held(t, least.Least(p), least.Least(q))
		for how := 1; how <= 4; how++ {
			want := tell(least.Least(built(t, x.want[how-1])))
			if got := product(t, p, q, how); tell(least.Least(got)) != want {
				t.Errorf("%q and %q, %d: not %q", x.a, x.b, how, x.want[how-1])
			}
			if got := product(t, least.Least(p), least.Least(q), how); tell(least.Least(got)) != want {
				t.Errorf("%q and %q, minimal, %d: not %q", x.a, x.b, how, x.want[how-1])
			}
		}
	}
}
