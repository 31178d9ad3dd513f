package image

import (
	"bytes"
	"fmt"
	"math/rand"
	"slices"
	"strings"
	"testing"

	"scriptory/api"
	"scriptory/least"
	"scriptory/machine"
	"scriptory/pair"
	"scriptory/parse"
	"scriptory/subset"
	"scriptory/thompson"
	"scriptory/witness"
)

// classes makes a Class of texts: the bytes of the first one have class 0, and so on; all others have class rest.
func classes(rest uint8, texts ...string) (class [256]uint8) {
	for b := range class {
		class[b] = rest
	}
	for c, s := range texts {
		for _, b := range []byte(s) {
			class[b] = uint8(c)
		}
	}
	return class
}

// dfa makes a machine of a text for each state: a figure for each class, and * behind those of one that ends a word.
func dfa(class [256]uint8, rows ...string) api.Dfa {
	d := api.Dfa{Class: class}
	for _, s := range rows {
		figures, end := strings.CutSuffix(s, "*")
		var row []int
		for _, f := range figures {
			row = append(row, int(f-'0'))
		}
		d.Next, d.Ends = append(d.Next, row), append(d.Ends, end)
	}
	return d
}

// The classes of most machines here: all bytes; all but a, and a; all but a and b, a, and b.
var (
	all = classes(0)
	a   = classes(0, "", "a")
	ab  = classes(0, "", "a", "b")
)

// eachByte has a class for each byte.
func eachByte() (class [256]uint8) {
	for b := range class {
		class[b] = uint8(b)
	}
	return class
}

// byTurns has n classes, each of them at every n-th byte.
func byTurns(n int) (class [256]uint8) {
	for b := range class {
		class[b] = uint8(b % n)
	}
	return class
}

// ring is a machine of n states, each of which leads to the next one by each byte, and the last one to the first. Those of ends end a word.
func ring(n int, class [256]uint8, ends ...int) api.Dfa {
	d := api.Dfa{Class: class, Ends: make([]bool, n)}
	for s := range n {
		d.Next = append(d.Next, slices.Repeat([]int{(s + 1) % n}, 1+int(slices.Max(class[:]))))
	}
	for _, s := range ends {
		d.Ends[s] = true
	}
	return d
}

// wide is a machine of n states and the classes of class, no two of which lead alike from states 0 and 1 together. It is minimal.
func wide(n int, class [256]uint8) api.Dfa {
	d := ring(n, class, n-1)
	for c := range d.Next[0] {
		d.Next[0][c], d.Next[1][c] = (1+c/n)%n, (2+c%n)%n
	}
	return renumbered(d)
}

// renumbered is d with its states in the order in which they are found.
func renumbered(d api.Dfa) (m api.Dfa) {
	found := []int{0}
	for at := 0; at < len(found); at++ {
		for _, to := range d.Next[found[at]] {
			if !slices.Contains(found, to) {
				found = append(found, to)
			}
		}
	}
	m.Class = d.Class
	for _, s := range found {
		var row []int
		for _, to := range d.Next[s] {
			row = append(row, slices.Index(found, to))
		}
		m.Next, m.Ends = append(m.Next, row), append(m.Ends, d.Ends[s])
	}
	return m
}

// tell writes all of a machine, so that two texts are the same where the machines are.
func tell(d api.Dfa) string {
	rows := make([]string, len(d.Next))
	for s, row := range d.Next {
		rows[s] = fmt.Sprint(row)
	}
	return fmt.Sprint(rows, d.Ends, d.Class)
}

// with is d with something done to a copy of it.
func with(d api.Dfa, turn func(d *api.Dfa)) api.Dfa {
	d = machine.Copy(d)
	turn(&d)
	return d
}

// nothing tells whether d is the zero value.
func nothing(d api.Dfa) bool { return len(d.Next) == 0 && len(d.Ends) == 0 && d.Class == all }

// turned is b with something done to a copy of it.
func turned(b []byte, at int, v byte) []byte {
	b = bytes.Clone(b)
	b[at] = v
	return b
}

// image is the image by its definition, of any machine that has as many states, classes and runs as may be.
func image(d api.Dfa) []byte {
	var firsts []int
	for b := range 256 {
		if b == 0 || d.Class[b] != d.Class[b-1] {
			firsts = append(firsts, b)
		}
	}
	b := []byte{byte(len(d.Next)), byte(len(d.Next[0]) - 1), byte(len(firsts) - 1)}
	for i, first := range firsts {
		last := 255
		if i+1 < len(firsts) {
			last = firsts[i+1] - 1
		}
		b = append(b, byte(last), d.Class[first])
	}
	for s, row := range d.Next {
		end := byte(0)
		if d.Ends[s] {
			end = 1
		}
		b = append(b, end)
		for _, to := range row {
			b = append(b, byte(to))
		}
	}
	return b
}

// fits tells whether the byte of b with the number at can follow those before it, all of which can: whether it is of the header, the runs, the states, or behind them goes by its place alone.
func fits(b []byte, at int) bool {
	v := int(b[at])
	if at < 3 {
		return at > 0 || v >= 1 && v <= 20
	}
	states, ways, runs := int(b[0]), int(b[1])+1, int(b[2])+1
	i := at - 3
	switch {
	case i < 2*runs && i%2 == 0:
		return (i == 0 || v > int(b[at-2])) && (i < 2*runs-2 || v == 255)
	case i < 2*runs:
		return v < ways && (i == 1 || v != int(b[at-2]))
	}
	i -= 2 * runs
	switch {
	case i >= states*(1+ways):
		return false
	case i%(1+ways) == 0:
		return v < 2
	}
	return v < states
}

// whole tells whether b, all bytes of which fit, has all of the bytes that its first ones tell of.
func whole(b []byte) bool {
	return len(b) >= 3 && len(b) == 3+2*(int(b[2])+1)+int(b[0])*(2+int(b[1]))
}

// taken is what Take should say of b: where its bytes fit and are as many as they should be, the machine is decoded by place and held against the definition.
func taken(b []byte) (d api.Dfa, e api.Errno) {
	for at := range b {
		if !fits(b, at) {
			return api.Dfa{}, api.ErrForm
		}
	}
	if !whole(b) {
		return api.Dfa{}, api.ErrShort
	}
	at := 3
	for v := range 256 {
		if v > int(b[at]) {
			at += 2
		}
		d.Class[v] = b[at+1]
	}
	at += 2
	for range b[0] {
		d.Ends = append(d.Ends, b[at] == 1)
		var row []int
		for _, to := range b[at+1 : at+2+int(b[1])] {
			row = append(row, int(to))
		}
		d.Next = append(d.Next, row)
		at += len(row) + 1
	}
	if !minimal(d) {
		return api.Dfa{}, api.ErrForm
	}
	return d, api.OK
}

// minimal tells whether d, all of whose numbers are states, and all of whose rows are as long, is minimal, by layer 12's definition.
func minimal(d api.Dfa) bool {
	for c := range d.Next[0] {
		first := slices.Index(d.Class[:], uint8(c))
		if first < 0 || c > 0 && first < slices.Index(d.Class[:], uint8(c-1)) {
			return false
		}
		for other := range c {
			if !slices.ContainsFunc(d.Next, func(row []int) bool { return row[c] != row[other] }) {
				return false
			}
		}
	}
	if int(slices.Max(d.Class[:])) >= len(d.Next[0]) {
		return false
	}
	found := []int{0}
	for at := 0; at < len(found); at++ {
		for _, to := range d.Next[found[at]] {
			if !slices.Contains(found, to) {
				found = append(found, to)
			}
		}
	}
	return len(found) == len(d.Next) && slices.IsSorted(found) && allDiffer(d)
}

// allDiffer tells whether no two states of d are equivalent: two differ where a class leads to two that do, again and again until none come in.
func allDiffer(d api.Dfa) bool {
	n := len(d.Next)
	differ, count := make([]bool, n*n), 0
	for more := true; more; {
		more = false
		for s := range n {
			for t := range n {
				is := d.Ends[s] != d.Ends[t]
				for c, to := range d.Next[s] {
					is = is || differ[to*n+d.Next[t][c]]
				}
				if is && !differ[s*n+t] {
					differ[s*n+t], more = true, true
					count++
				}
			}
		}
	}
	return count == n*n-n
}

// held holds what Put, Take and Size say of a minimal machine of at most 20 states against the definition, and returns its image.
func held(t testing.TB, d api.Dfa) []byte {
	t.Helper()
	before, want := machine.Copy(d), image(d)
	b, e := Put(d)
	if e != api.OK || !bytes.Equal(b, want) {
		t.Fatalf("Put(%.1000s): %v, error %d, not %v", tell(before), b, e, want)
	}
	if n := Size(d); n != len(want) {
		t.Fatalf("Size(%.1000s): %d, not %d", tell(before), n, len(want))
	}
	m, e := Take(b)
	if e != api.OK || !machine.Same(m, before) {
		t.Fatalf("Take(%v): %.1000s, error %d, not %.1000s", b, tell(m), e, tell(before))
	}
	if !machine.Same(d, before) || !bytes.Equal(b, want) {
		t.Fatalf("%.1000s: changed", tell(before))
	}
	return b
}

// against holds what Take says of b against the definition.
func against(t testing.TB, b []byte) api.Errno {
	t.Helper()
	before := bytes.Clone(b)
	want, wanted := taken(b)
	d, e := Take(b)
	if e != wanted || !machine.Same(d, want) || e != api.OK && !nothing(d) {
		t.Fatalf("Take(%v): %.1000s, error %d, not %.1000s, error %d", b, tell(d), e, tell(want), wanted)
	}
	if !bytes.Equal(b, before) {
		t.Fatalf("Take(%v): changed", before)
	}
	return e
}

// P15.1: images written by hand.
func TestImages(t *testing.T) {
	for i, x := range []struct {
		d    api.Dfa
		want []byte
	}{
		// The chapter's example; and the machine that takes all words.
		{dfa(all, "0"), []byte{1, 0, 0, 255, 0, 0, 0}},
		{dfa(all, "0*"), []byte{1, 0, 0, 255, 0, 1, 0}},
		// The empty word alone; words of as many bytes as 2, and 3, go into.
		{dfa(all, "1*", "1"), []byte{2, 0, 0, 255, 0, 1, 1, 0, 1}},
		{ring(2, all, 0), []byte{2, 0, 0, 255, 0, 1, 1, 0, 0}},
		{ring(3, all, 0), []byte{3, 0, 0, 255, 0, 1, 1, 0, 2, 0, 0}},
		// a alone; an a anywhere: two runs of class 0 around it.
		{dfa(a, "12", "11", "11*"), []byte{3, 1, 2, 96, 0, 97, 1, 255, 0, 0, 1, 2, 0, 1, 1, 1, 1, 1}},
		{dfa(a, "01", "11*"), []byte{2, 1, 2, 96, 0, 97, 1, 255, 0, 0, 0, 1, 1, 1, 1}},
		// Classes at the edges: the byte 0, the byte 255, and both.
		{dfa(classes(1, "\x00"), "01", "11*"), []byte{2, 1, 1, 0, 0, 255, 1, 0, 0, 1, 1, 1, 1}},
		{dfa(classes(0, "", "\xff"), "01", "11*"), []byte{2, 1, 1, 254, 0, 255, 1, 0, 0, 1, 1, 1, 1}},
		{dfa(classes(1, "\x00\xff"), "01", "11*"), []byte{2, 1, 2, 0, 0, 254, 1, 255, 0, 0, 0, 1, 1, 1, 1}},
		// Bytes side by side: of one class they are one run, of two they are two.
		{dfa(classes(0, "", "abc"), "01", "10*"), []byte{2, 1, 2, 96, 0, 99, 1, 255, 0, 0, 0, 1, 1, 1, 0}},
		{dfa(ab, "012", "102*", "222"), []byte{3, 2, 3, 96, 0, 97, 1, 98, 2, 255, 0, 0, 0, 1, 2, 1, 1, 0, 2, 0, 2, 2, 2}},
		{dfa(classes(0, "", "ac", "b"), "012", "102*", "222"), []byte{3, 2, 4, 96, 0, 97, 1, 98, 2, 99, 1, 255, 0, 0, 0, 1, 2, 1, 1, 0, 2, 0, 2, 2, 2}},
	} {
		if b := held(t, x.d); !bytes.Equal(b, x.want) {
			t.Errorf("%d: %v, not %v", i, b, x.want)
		}
	}
}

// large is minimal machines with as many states, classes, runs and bytes of an image as there may be.
func large() map[string]api.Dfa {
	return map[string]api.Dfa{
		"20 states":                       ring(20, all, 19),
		"20 states, all but one end":      ring(20, all, upTo(19)...),
		"256 runs of 2 classes":           wide(2, byTurns(2)),
		"256 runs of 3 classes":           wide(3, byTurns(3)),
		"each byte a class":               wide(20, eachByte()),
		"each byte a class, 16 states":    wide(16, eachByte()),
		"256 runs of 255 classes":         wide(20, byTurns(255)),
		"20 states, 256 runs of 2":        wide(20, byTurns(2)),
		"20 states, 129 runs, 2 classes":  wide(20, classes(0, "", byParity(1))),
		"20 states, 9 classes of letters": wide(20, classes(0, "", "a", "b", "c", "d", "e", "f", "g", "h")),
	}
}

// upTo is the numbers from 0 on that are less than n.
func upTo(n int) (l []int) {
	for i := range n {
		l = append(l, i)
	}
	return l
}

// byParity is the odd bytes below 128, and above it those that aren't.
func byParity(odd int) string {
	var b []byte
	for v := range 256 {
		if v%2 == odd {
			b = append(b, byte(v))
		}
		if v == 127 {
			odd = 1 - odd
		}
	}
	return string(b)
}

// P15.1: as many states, classes and runs as there may be.
func TestLarge(t *testing.T) {
	sizes := map[string]int{
		"20 states": 45, "20 states, all but one end": 45, "256 runs of 2 classes": 3 + 512 + 2*3, "256 runs of 3 classes": 3 + 512 + 3*4,
		"each byte a class": 3 + 512 + 20*257, "each byte a class, 16 states": 3 + 512 + 16*257, "256 runs of 255 classes": 3 + 512 + 20*256, "20 states, 256 runs of 2": 3 + 512 + 20*3,
	}
	for name, d := range large() {
		b := held(t, d)
		if want, told := sizes[name]; told && len(b) != want {
			t.Errorf("%s: %d bytes, not %d", name, len(b), want)
		}
	}
}

// notMinimal is machines that are valid, each of them short of one thing that a minimal one has.
func notMinimal() map[string]api.Dfa {
	return map[string]api.Dfa{
		"a state that is not reached":                dfa(all, "0*", "0"),
		"such a state, between":                      dfa(a, "20", "02", "22*"),
		"two states alike":                           dfa(all, "1", "0"),
		"two ends alike":                             dfa(a, "12", "11*", "22*"),
		"a ring, twice":                              ring(6, all, 2, 5),
		"two classes alike":                          dfa(a, "11", "22*", "22"),
		"two classes alike, and one between":         dfa(ab, "010", "111*"),
		"classes that do not rise":                   dfa(classes(1, "a"), "10", "11*"),
		"classes that do not rise, behind one":       dfa(classes(0, "", "b", "a"), "012", "102*", "222"),
		"a class that no byte has":                   dfa(classes(2, "a"), "012", "111*", "222"),
		"class 0 has no byte":                        dfa(classes(1), "01", "00*"),
		"states that are not in their order":         dfa(a, "21", "11*", "22"),
		"states that are not in their order, behind": dfa(a, "01", "32", "22*", "33"),
		"no words, two states":                       dfa(a, "01", "10"),
		"all words, two classes":                     dfa(a, "00*"),
		"20 states alike":                            ring(20, all),
		"21 states alike":                            ring(21, all),
		"21 states, one not reached":                 with(ring(21, all, 19), func(d *api.Dfa) { d.Next[19][0] = 0 }),
		"2,000 states alike":                         ring(2000, eachByte()),
		"20 states, two classes":                     ring(20, a, 19),
		"2,000 states, two classes":                  ring(2000, a, 19),
	}
}

// notValid is machines each of which has one fault.
func notValid() map[string]api.Dfa {
	d := dfa(ab, "012", "102*", "222")
	return map[string]api.Dfa{
		"nothing":                {},
		"no states":              {Next: [][]int{}, Ends: []bool{}},
		"no states, but classes": {Class: ab},
		"no states, but an end":  {Ends: []bool{true}},
		"no Ends":                with(d, func(d *api.Dfa) { d.Ends = nil }),
		"an end too few":         with(d, func(d *api.Dfa) { d.Ends = d.Ends[:2] }),
		"an end too many":        with(d, func(d *api.Dfa) { d.Ends = append(d.Ends, false) }),
		"a class too many":       with(d, func(d *api.Dfa) { d.Class['x'] = 3 }),
		"class 255":              with(d, func(d *api.Dfa) { d.Class['x'] = 255 }),
		"a class too few":        with(d, func(d *api.Dfa) { d.Class = a }),
		"an empty row":           {Next: [][]int{{}}, Ends: []bool{true}},
		"a nil row":              with(d, func(d *api.Dfa) { d.Next[2] = nil }),
		"a short row":            with(d, func(d *api.Dfa) { d.Next[0] = d.Next[0][:2] }),
		"a long row":             with(d, func(d *api.Dfa) { d.Next[1] = append(d.Next[1], 0) }),
		"below":                  with(d, func(d *api.Dfa) { d.Next[0][0] = -1 }),
		"far below":              with(d, func(d *api.Dfa) { d.Next[0][0] = -1 << 63 }),
		"beyond":                 with(d, func(d *api.Dfa) { d.Next[2][2] = 3 }),
		"beyond, as a byte in":   with(d, func(d *api.Dfa) { d.Next[2][2] = 256 + 2 }),
		"far beyond":             with(d, func(d *api.Dfa) { d.Next[2][2] = 1<<63 - 1 }),
		"2,001 states":           ring(2001, all, 2000),
		"3,000 states, no Ends":  with(ring(3000, a), func(d *api.Dfa) { d.Ends = nil }),
	}
}

// P15.1: what has no image: ErrForm for what is not minimal, or not valid, however many states it has; and ErrBudget for more states than 20.
func TestNoImage(t *testing.T) {
	ask := func(name string, d api.Dfa, want api.Errno) {
		t.Helper()
		before := tell(d)
		if b, e := Put(d); e != want || len(b) != 0 {
			t.Errorf("%s: Put: %.20v, error %d, not %d", name, b, e, want)
		}
		if n := Size(d); n != 0 {
			t.Errorf("%s: Size: %d", name, n)
		}
		if tell(d) != before {
			t.Errorf("%s: changed", name)
		}
	}
	for name, d := range notMinimal() {
		ask(name, d, api.ErrForm)
		if m := least.Least(d); len(m.Next) <= api.MaxStates {
			held(t, m)
		}
	}
	for name, d := range notValid() {
		ask(name, d, api.ErrForm)
	}
	for _, n := range []int{21, 22, 200, 255, 256, 257, 276, 2000} {
		ask(fmt.Sprint(n, " states"), ring(n, all, n-1), api.ErrBudget)
	}
	ask("21 states, each byte a class", wide(21, eachByte()), api.ErrBudget)
	held(t, ring(19, all, 18))
	held(t, ring(20, all, 19))
}

// P15.1: bytes that are no image, written by hand, each with its one fault.
func TestNoMachine(t *testing.T) {
	const short, form = api.ErrShort, api.ErrForm
	for i, x := range []struct {
		b    []byte
		want api.Errno
	}{
		{nil, short}, {[]byte{}, short},
		// The number of states, whatever follows.
		{[]byte{0}, form}, {[]byte{21}, form}, {[]byte{255}, form}, {[]byte{1}, short}, {[]byte{20}, short},
		{[]byte{0, 0, 0, 255, 0}, form},
		{[]byte{1, 0}, short}, {[]byte{1, 255}, short}, {[]byte{1, 0, 0}, short}, {[]byte{1, 0, 255}, short},
		// The last run, or the only one, ends at 255: its last byte tells, ahead of its class.
		{[]byte{1, 0, 0, 254}, form}, {[]byte{1, 0, 0, 0}, form}, {[]byte{1, 0, 0, 255}, short},
		{[]byte{1, 0, 0, 254, 0, 0, 0}, form},
		{[]byte{2, 1, 1, 0, 0, 254}, form}, {[]byte{2, 1, 1, 0, 0, 255}, short},
		// A run ends behind the one before it. One that ends at 255 and is not the last one leaves no byte to the next.
		{[]byte{2, 1, 2, 97, 0, 97}, form}, {[]byte{2, 1, 2, 97, 0, 96}, form}, {[]byte{2, 1, 2, 97, 0, 98}, short},
		{[]byte{2, 1, 1, 255}, short}, {[]byte{2, 1, 1, 255, 0}, short}, {[]byte{2, 1, 1, 255, 0, 255}, form}, {[]byte{2, 1, 2, 255, 0, 255}, form}, {[]byte{2, 1, 1, 255, 0, 0}, form},
		// Classes: of those there are, and not that of the run before.
		{[]byte{1, 0, 0, 255, 1}, form}, {[]byte{1, 0, 0, 255, 255}, form}, {[]byte{1, 0, 0, 255, 0}, short},
		{[]byte{2, 1, 2, 96, 2}, form}, {[]byte{2, 1, 2, 96, 1}, short}, {[]byte{2, 1, 2, 96, 0, 97, 0}, form}, {[]byte{2, 1, 2, 96, 1, 97, 1}, form}, {[]byte{2, 1, 2, 96, 0, 97, 1}, short},
		{[]byte{2, 255, 0, 255, 255}, short},
		// Ends and ways.
		{[]byte{1, 0, 0, 255, 0, 2}, form}, {[]byte{1, 0, 0, 255, 0, 255}, form}, {[]byte{1, 0, 0, 255, 0, 1}, short},
		{[]byte{1, 0, 0, 255, 0, 0, 1}, form}, {[]byte{1, 0, 0, 255, 0, 1, 255}, form},
		{[]byte{2, 0, 0, 255, 0, 1, 2}, form}, {[]byte{2, 0, 0, 255, 0, 1, 1}, short}, {[]byte{2, 0, 0, 255, 0, 1, 1, 2}, form}, {[]byte{2, 0, 0, 255, 0, 1, 1, 0}, short}, {[]byte{2, 0, 0, 255, 0, 1, 1, 0, 2}, form},
		// More bytes.
		{[]byte{1, 0, 0, 255, 0, 0, 0, 0}, form}, {[]byte{1, 0, 0, 255, 0, 0, 0, 1, 0, 0, 255, 0, 0, 0}, form}, {[]byte{2, 0, 0, 255, 0, 1, 1, 0, 1, 255}, form},
		// What is not minimal: one thing each.
		{[]byte{2, 0, 0, 255, 0, 1, 0, 0, 0}, form},                       // a state that is not reached
		{[]byte{2, 0, 0, 255, 0, 1, 1, 1, 0}, form},                       // two states alike
		{[]byte{2, 1, 1, 96, 0, 255, 1, 0, 1, 1, 1, 1}, short},            // (a byte too few)
		{[]byte{2, 1, 1, 96, 0, 255, 1, 0, 1, 1, 1, 0, 0}, form},          // two classes alike
		{[]byte{2, 1, 1, 96, 1, 255, 0, 0, 1, 0, 1, 1, 1}, form},          // classes that do not rise
		{[]byte{2, 1, 0, 255, 0, 0, 1, 0, 1, 1, 1}, form},                 // the last class has no bytes
		{[]byte{2, 1, 0, 255, 1, 0, 0, 1, 1, 1, 1}, form},                 // nor has the first one
		{[]byte{3, 1, 1, 96, 0, 255, 1, 0, 2, 1, 1, 1, 1, 0, 2, 2}, form}, // states that are not in their order
		{[]byte{1, 255, 0, 255, 0}, short},                                // 256 classes, one of which has bytes
		{append([]byte{1, 255, 0, 255, 0}, make([]byte, 256)...), short},
		{append([]byte{1, 255, 0, 255, 0}, make([]byte, 257)...), form},
		{append([]byte{1, 0, 0, 255, 0, 0, 0}, make([]byte, 1<<20)...), form}, // many more bytes
	} {
		if e := against(t, x.b); e != x.want {
			t.Errorf("%d: %.30v: error %d, not %d", i, x.b, e, x.want)
		}
	}
	for name, d := range notMinimal() {
		if len(d.Next) <= api.MaxStates {
			if e := against(t, image(d)); e != api.ErrForm {
				t.Errorf("%s: error %d", name, e)
			}
		}
	}
	// The number of states tells, not what follows.
	for _, n := range []int{21, 255} {
		if e := against(t, image(ring(n, all, n-1))); e != api.ErrForm {
			t.Errorf("%d states: error %d", n, e)
		}
	}
}

// some is minimal machines of several kinds, small enough to have each of their bytes changed.
func some(t testing.TB) []api.Dfa {
	l := []api.Dfa{
		dfa(all, "0"), dfa(all, "0*"), dfa(all, "1*", "1"), ring(3, all, 0),
		dfa(a, "12", "11", "11*"), dfa(a, "01", "11*"),
		dfa(classes(1, "\x00"), "01", "11*"), dfa(classes(0, "", "\xff"), "01", "11*"), dfa(classes(1, "\x00\xff"), "01", "11*"),
		dfa(ab, "012", "102*", "222"), dfa(classes(0, "", "ac", "b"), "012", "102*", "222"),
		ring(20, all, 19), wide(20, classes(0, "", "a", "b", "c", "d")),
	}
	for _, text := range []string{"(a|b)*abb", "[^]+", "ab|ac|ad", "[a-c]x|[b-d]y", "(ab)*", "\\x00|\\xff"} {
		l = append(l, least.Least(built(t, text)))
	}
	return l
}

// P15.1: byte by byte: each number of bytes of an image is too few; each byte in place of each of its own, with all that follow and with none, is held against the definition.
func TestEachByte(t *testing.T) {
	got := map[api.Errno]int{}
	for _, d := range some(t) {
		b := held(t, d)
		for at := range b {
			if e := against(t, b[:at]); e != api.ErrShort {
				t.Fatalf("%d bytes of %v: error %d", at, b, e)
			}
			for v := range 256 {
				x := turned(b, at, byte(v))
				got[against(t, x)]++
				cut := against(t, x[:at+1:at+1])
				if want := fits(x, at); (cut == api.ErrForm) == want && !whole(x[:at+1]) {
					t.Fatalf("%d bytes of %v: error %d", at+1, x, cut)
				}
			}
		}
		for v := range 256 {
			if e := against(t, append(bytes.Clone(b), byte(v))); e != api.ErrForm {
				t.Fatalf("%v and %d: error %d", b, v, e)
			}
		}
	}
	if got[api.OK] < 100 || got[api.ErrForm] < 100 || got[api.ErrShort] < 100 {
		t.Errorf("of each: %v", got)
	}
}

// P15.1: the same of the greatest images, by a few bytes at each place.
func TestEachByteOfLarge(t *testing.T) {
	for name, d := range large() {
		b := held(t, d)
		for at := 0; at < len(b); at += 1 + len(b)/60 {
			if e := against(t, b[:at]); e != api.ErrShort {
				t.Fatalf("%s: %d bytes: error %d", name, at, e)
			}
			for _, v := range []byte{0, 1, 2, 19, 20, 21, 254, 255, b[at] - 1, b[at], b[at] + 1} {
				x := turned(b, at, v)
				against(t, x)
				against(t, x[:at+1])
			}
		}
		if e := against(t, append(bytes.Clone(b), 0)); e != api.ErrForm {
			t.Errorf("%s: and one more: error %d", name, e)
		}
	}
}

// P15.1: all images that begin with some bytes, found by going on wherever Take says that there are too few: those of all minimal machines that begin so, none else.
func TestAllThatBeginSo(t *testing.T) {
	abRest := func(b, rest uint8) [256]uint8 {
		class := classes(rest, below('a'), "a")
		class['b'] = b
		return class
	}
	for _, x := range []struct {
		begin        []byte
		classes      [][256]uint8
		states, ways int
		images       int
	}{
		{[]byte{1, 0, 0, 255}, [][256]uint8{all}, 1, 1, 2},
		{[]byte{2, 0, 0, 255}, [][256]uint8{all}, 2, 1, 4},
		{[]byte{3, 0, 0, 255}, [][256]uint8{all}, 3, 1, 12},
		{[]byte{1, 1, 2, 96, 0, 97}, [][256]uint8{a}, 1, 2, 0},
		{[]byte{2, 1, 2, 96, 0, 97}, [][256]uint8{a}, 2, 2, 20},
		{[]byte{2, 2, 3, 96, 0, 97, 1, 98}, [][256]uint8{abRest(2, 0), abRest(2, 1), abRest(0, 2)}, 2, 3, 144},
	} {
		var found []string
		open := [][]byte{x.begin}
		for len(open) > 0 {
			b := open[0]
			open = open[1:]
			for v := range 256 {
				longer := append(bytes.Clone(b), byte(v))
				switch against(t, longer) {
				case api.OK:
					found = append(found, string(longer))
				case api.ErrShort:
					open = append(open, longer)
				}
			}
		}
		var want []string
		for _, class := range x.classes {
			for _, d := range machines(class, x.states, x.ways) {
				if minimal(d) {
					want = append(want, string(image(d)))
				}
			}
		}
		slices.Sort(found)
		slices.Sort(want)
		if !slices.Equal(found, want) || len(found) != x.images {
			t.Errorf("%v: %d images, not %d, %d", x.begin, len(found), len(want), x.images)
		}
	}
}

// below is all bytes less than b.
func below(b byte) string {
	var l []byte
	for v := range b {
		l = append(l, v)
	}
	return string(l)
}

// machines is all machines of n states and these classes, ways of them.
func machines(class [256]uint8, n, ways int) (l []api.Dfa) {
	rows := 1
	for range n * ways {
		rows *= n
	}
	for row := range rows {
		for ends := range 1 << n {
			d, rest := api.Dfa{Class: class}, row
			for s := range n {
				var to []int
				for range ways {
					to, rest = append(to, rest%n), rest/n
				}
				d.Next, d.Ends = append(d.Next, to), append(d.Ends, ends>>s&1 == 1)
			}
			l = append(l, d)
		}
	}
	return l
}

// P15.1, what follows: all machines of at most three states and two classes: each has the image of its language, or none because it is not minimal; they have 1,054 languages.
func TestAllSmall(t *testing.T) {
	words := [][]byte{nil}
	for at := 0; len(words) < 31; at++ {
		words = append(words, append(slices.Clone(words[at]), 'a'), append(slices.Clone(words[at]), 'z'))
	}
	imageOf, languageOf := map[int]string{}, map[string]int{}
	for n := 1; n <= 3; n++ {
		for _, d := range machines(classes(1, "a"), n, 2) {
			language := 0
			for i, w := range words {
				if machine.Run(d, w) {
					language |= 1 << i
				}
			}
			b := string(held(t, least.Least(d)))
			if other, known := imageOf[language]; known && other != b {
				t.Fatalf("%s: %v, but %v", tell(d), []byte(b), []byte(other))
			}
			if other, known := languageOf[b]; known && other != language {
				t.Fatalf("%s: %v, which has other words, too", tell(d), []byte(b))
			}
			imageOf[language], languageOf[b] = b, language
			if own, e := Put(d); e == api.OK && string(own) != b || e != api.OK && e != api.ErrForm || (e == api.OK) != minimal(d) {
				t.Fatalf("%s: %v, error %d", tell(d), own, e)
			}
		}
	}
	if len(imageOf) != 1054 || len(languageOf) != 1054 {
		t.Errorf("%d languages, %d images", len(imageOf), len(languageOf))
	}
}

// grown is a machine of n states and at most c classes that bytes have, by chance.
func grown(numbers *rand.Rand, n, c int) (d api.Dfa) {
	long := 1 + numbers.Intn(64)
	for b := range d.Class {
		if b > 0 && numbers.Intn(long) > 0 {
			d.Class[b] = d.Class[b-1]
		} else {
			d.Class[b] = uint8(numbers.Intn(c))
		}
	}
	for range n {
		var row []int
		for range int(slices.Max(d.Class[:])) + 1 {
			row = append(row, numbers.Intn(n))
		}
		d.Next, d.Ends = append(d.Next, row), append(d.Ends, numbers.Intn(3) == 0)
	}
	return d
}

// P15.1: machines by chance, of each number of states: Put and Take are each other's way back.
func TestGrown(t *testing.T) {
	numbers := rand.New(rand.NewSource(15))
	sizes := map[int]int{}
	for i := range 6000 {
		d := grown(numbers, 1+i%25, 1+numbers.Intn(1+i%40))
		m := least.Least(d)
		sizes[len(m.Next)]++
		if len(m.Next) <= api.MaxStates {
			held(t, m)
			continue
		}
		if b, e := Put(m); e != api.ErrBudget || b != nil || Size(m) != 0 {
			t.Fatalf("%d states: %d bytes, error %d", len(m.Next), len(b), e)
		}
	}
	for n := 1; n <= 22; n++ {
		if sizes[n] < 20 {
			t.Errorf("%d of %d states", sizes[n], n)
		}
	}
}

// spoilt is b with a few bytes changed, cut out, put in or cut off.
func spoilt(numbers *rand.Rand, b []byte) []byte {
	b = bytes.Clone(b)
	for range 1 + numbers.Intn(3) {
		at := numbers.Intn(len(b) + 1)
		switch v := byte(numbers.Intn(256)) >> numbers.Intn(8); numbers.Intn(5) {
		case 0:
			b = slices.Insert(b, at, v)
		case 1:
			b = slices.Delete(b, at, min(at+1, len(b)))
		case 2:
			b = b[:at]
		default:
			if at < len(b) {
				b[at] = v
			}
		}
	}
	return b
}

// P15.1, R1: images that are spoilt, and bytes by chance: none but the image itself is taken for a machine's.
func TestSpoilt(t *testing.T) {
	numbers := rand.New(rand.NewSource(51))
	got := map[api.Errno]int{}
	for i := range 60000 {
		d := least.Least(grown(numbers, 1+i%9, 1+i%5))
		b := spoilt(numbers, image(d))
		if i%10 == 0 {
			b = make([]byte, numbers.Intn(40))
			numbers.Read(b)
			if len(b) > 3 {
				b[0], b[1], b[2] = b[0]%22, b[1]%3, b[2]%4
			}
		}
		e := against(t, b)
		got[e]++
		if e == api.OK {
			d, _ := Take(b)
			if again, e := Put(d); e != api.OK || !bytes.Equal(again, b) {
				t.Fatalf("%v: %v, error %d", b, again, e)
			}
		}
	}
	if got[api.OK] < 100 || got[api.ErrForm] < 100 || got[api.ErrShort] < 100 {
		t.Errorf("of each: %v", got)
	}
}

// built is the machine of a text, as subset makes it.
func built(t testing.TB, text string) api.Dfa {
	t.Helper()
	r, at, e := parse.Parse(text)
	if e != api.OK {
		t.Fatalf("%q: error %d at %d", text, e, at)
	}
	n, e := thompson.Build(r)
	if e != api.OK {
		t.Fatalf("%q: error %d", text, e)
	}
	d, e := subset.Make(n, api.MaxSets)
	if e != api.OK {
		t.Fatalf("%q: error %d", text, e)
	}
	return d
}

// What follows: two machines have the same image if and only if they take the same words: those of a line do, and those of two lines don't.
func TestExpressions(t *testing.T) {
	lines := [][]string{
		{"[]", "a[]", "[]b|[]*[]"},
		{"", "[]*", "()*", "()()"},
		{"[\\x00-\\xff]*", "([\\x00-\\xff]|)*", "[^]*", "([^a]|a)*", "([^]*)*"},
		{"[^]+", "[^][^]*", "[^]*[^]"},
		{"a", "[a-a]", "a()", "a|a[]"},
		{"a|b", "[ab]", "b|a", "[a-b]"},
		{"a*", "(a*)*", "a*a*", "(aa)*|a(aa)*", "(|a)+"},
		{"(a|b)*abb", "(a*b*)*abb", "(b|a)*a(bb)"},
		{"(ab)*", "|a(ba)*b", "(abab)*(|ab)"},
		{"(a|b)*", "(a*b*)*", "(a*|b)*", "[ba]*"},
		{"ab|ac|ad", "a[b-d]", "a(b|c|d)"},
		{"[a-c]x|[b-d]y", "ax|[bc]x|[bcd]y", "a(x)|[bc][xy]|dy"},
		{"\\x00", "[\\x00]"}, {"\\xff", "[^\\x00-\\xfe]"},
	}
	imageOf := func(text string) []byte { return held(t, least.Least(built(t, text))) }
	for i, texts := range lines {
		for _, text := range texts {
			b := imageOf(text)
			for j, others := range lines {
				for _, other := range others {
					d, e := pair.Product(built(t, text), built(t, other), 4, 2000)
					_, differ := witness.Shortest(d)
					if e != api.OK || differ != (i != j) {
						t.Fatalf("%q and %q: error %d, %t", text, other, e, differ)
					}
					if bytes.Equal(b, imageOf(other)) == differ {
						t.Errorf("%q and %q: images %v, %v", text, other, b, imageOf(other))
					}
				}
			}
		}
	}
}

// R3: arguments are not changed, nor the room behind them, nor does what stands there tell.
func TestArguments(t *testing.T) {
	b := held(t, dfa(ab, "012", "102*", "222"))
	for n := range b {
		room := append(bytes.Clone(b), 7, 7, 7)
		d, e := Take(room[:n])
		if e != api.ErrShort || !nothing(d) {
			t.Fatalf("%d bytes, and the others behind them: error %d", n, e)
		}
		if !bytes.Equal(room, append(bytes.Clone(b), 7, 7, 7)) {
			t.Fatalf("%d bytes: changed", n)
		}
	}
	first, row := []int{1, 2, 5}, []int{1, 1, 2, 9, 9}
	whole := api.Dfa{Class: a, Next: [][]int{first[:2], row[:2], row[:2], {5, 5}}, Ends: []bool{false, false, true, true}}
	d := whole
	d.Next, d.Ends = d.Next[:3], d.Ends[:3]
	told := func() string {
		var s []string
		for _, r := range whole.Next {
			s = append(s, fmt.Sprint(r[:cap(r)]))
		}
		return fmt.Sprint(s) + tell(whole)
	}
	before := told()
	got, e := Put(d)
	if n := Size(d); e != api.OK || n != len(got) || !bytes.Equal(got, []byte{3, 1, 2, 96, 0, 97, 1, 255, 0, 0, 1, 2, 0, 1, 1, 1, 1, 1}) {
		t.Errorf("two states with one row: %v, error %d, %d bytes", got, e, n)
	}
	if told() != before {
		t.Errorf("changed: %s, not %s", told(), before)
	}
}

// R3, R4: answers are new each time, and no list of one shares its room with another or with what was given.
func TestAnswers(t *testing.T) {
	for name, d := range large() {
		given := tell(d)
		b, _ := Put(d)
		want := bytes.Clone(b)
		m, _ := Take(b)
		for i := range b[:cap(b)] {
			b[:cap(b)][i] = 77
		}
		if tell(m) != given || tell(d) != given {
			t.Errorf("%s: a machine changes with its image", name)
		}
		// Each row gets a number of its own, all of its room.
		for s, row := range m.Next {
			for c := range row[:cap(row)] {
				row[:cap(row)][c] = -s
			}
		}
		for s, row := range m.Next {
			for c := range row[:cap(row)] {
				if row[:cap(row)][c] != -s {
					t.Fatalf("%s: rows %d and %d share their room", name, s, -row[:cap(row)][c])
				}
			}
		}
		for s := range m.Ends {
			m.Ends[s] = !m.Ends[s]
		}
		clear(m.Next)
		again, _ := Put(d)
		other, e := Take(want)
		if !bytes.Equal(again, want) || e != api.OK || tell(other) != given || Size(d) != len(want) {
			t.Errorf("%s: another answer", name)
		}
	}
}

// R4: an error leaves nothing behind that a later call could see.
func TestAfterErrors(t *testing.T) {
	d := dfa(ab, "012", "102*", "222")
	want := held(t, d)
	for name, x := range notValid() {
		Put(x)
		Take(want[:len(name)%len(want)])
		if b := held(t, d); !bytes.Equal(b, want) {
			t.Fatalf("behind %s: %v", name, b)
		}
	}
}
