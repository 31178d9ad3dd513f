package octet

import (
	"bytes"
	"math"
	"testing"

	"scriptory/api"
)

// spare returns a slice of s whose unused capacity is filled with a mark, and a function that tells whether s or the mark was touched.
func spare(s string) (b []byte, intact func() bool) {
	whole := append([]byte(s), bytes.Repeat([]byte{0xEE}, 16)...)
	was := bytes.Clone(whole)
	return whole[:len(s)], func() bool { return bytes.Equal(whole, was) }
}

// shares tells whether a write to byte i of a shows in byte j of b.
func shares(a []byte, i int, b []byte, j int) bool {
	was := b[j]
	a[i] ^= 0xFF
	defer func() { a[i] ^= 0xFF }()
	return b[j] != was
}

// P1.1: the bytes of a number, the lowest one first, at every width.
func TestPutWidths(t *testing.T) {
	const v = 0x8877665544332211
	all := []byte{0x11, 0x22, 0x33, 0x44, 0x55, 0x66, 0x77, 0x88}
	for _, x := range []struct{ n, want int }{
		{0, 0}, {1, 1}, {2, 2}, {3, 3}, {4, 4}, {5, 5}, {6, 6}, {7, 7}, {8, 8},
		{-1, 0}, {math.MinInt, 0}, {9, 8}, {math.MaxInt, 8},
	} {
		want := append([]byte("ab"), all[:x.want]...)
		if got := Put([]byte("ab"), v, x.n); !bytes.Equal(got, want) {
			t.Errorf("Put of %d bytes: %x, not %x", x.n, got, want)
		}
		if got := Put(nil, v, x.n); !bytes.Equal(got, all[:x.want]) {
			t.Errorf("Put of %d bytes behind nothing: %x, not %x", x.n, got, all[:x.want])
		}
	}
}

// P1.1: the chapter's example, and numbers at the edges.
func TestPutNumbers(t *testing.T) {
	for _, x := range []struct {
		v    uint64
		n    int
		want string
	}{
		{258, 2, "\x02\x01"},
		{0, 1, "\x00"},
		{0, 8, "\x00\x00\x00\x00\x00\x00\x00\x00"},
		{255, 1, "\xff"},
		{256, 1, "\x00"},
		{65535, 2, "\xff\xff"},
		{65536, 2, "\x00\x00"},
		{math.MaxUint64, 8, "\xff\xff\xff\xff\xff\xff\xff\xff"},
		{1 << 63, 8, "\x00\x00\x00\x00\x00\x00\x00\x80"},
	} {
		if got := Put(nil, x.v, x.n); string(got) != x.want {
			t.Errorf("Put(nil, %d, %d): %x, not %x", x.v, x.n, got, x.want)
		}
	}
}

// P1.1: what Put wrote, Take reads, wherever it stands.
func TestTakeReadsPut(t *testing.T) {
	for _, v := range []uint64{0, 1, 0x80, 0xFF, 0x100, 0x8877665544332211, math.MaxUint64, 1 << 63} {
		for n := 0; n <= 8; n++ {
			low := v
			if n < 8 {
				low = v & (1<<(8*n) - 1)
			}
			for at := 0; at <= 3; at++ {
				b := append(Put([]byte("xyz")[:at], v, n), 0xAA, 0xBB)
				if got, e := Take(b, at, n); got != low || e != api.OK {
					t.Errorf("Take(%x, %d, %d): %x %d, not %x", b, at, n, got, e, low)
				}
			}
		}
	}
}

// P1.1: the errors of Take, and that ErrArg comes first.
func TestTakeErrors(t *testing.T) {
	b := []byte{1, 2, 3}
	for _, x := range []struct {
		at, n int
		want  api.Errno
	}{
		{-1, 0, api.ErrArg},
		{math.MinInt, 1, api.ErrArg},
		{0, -1, api.ErrArg},
		{0, math.MinInt, api.ErrArg},
		{0, 9, api.ErrArg},
		{0, math.MaxInt, api.ErrArg},
		{4, 9, api.ErrArg},
		{math.MaxInt, -1, api.ErrArg},
		{0, 4, api.ErrShort},
		{0, 8, api.ErrShort},
		{2, 2, api.ErrShort},
		{3, 1, api.ErrShort},
		{4, 0, api.ErrShort},
		{math.MaxInt, 0, api.ErrShort},
		{math.MaxInt, 8, api.ErrShort},
	} {
		v, e := Take(b, x.at, x.n)
		if e != x.want || v != 0 {
			t.Errorf("Take at %d of %d: %d %d, not %d", x.at, x.n, v, e, x.want)
		}
	}
	if v, e := Take(b, 0, 3); v != 0x030201 || e != api.OK {
		t.Errorf("all of it: %x %d", v, e)
	}
	if v, e := Take(b, 3, 0); v != 0 || e != api.OK {
		t.Errorf("no byte at the end: %x %d", v, e)
	}
	for _, b := range [][]byte{nil, {}} {
		if v, e := Take(b, 0, 0); v != 0 || e != api.OK {
			t.Errorf("no byte of nothing: %d %d", v, e)
		}
		if v, e := Take(b, 0, 1); v != 0 || e != api.ErrShort {
			t.Errorf("a byte of nothing: %d %d", v, e)
		}
	}
}

// P1.1: bytes beyond the length of b are not b's, though its capacity has them.
func TestTakeKeepsToLength(t *testing.T) {
	b, _ := spare("\x05\x00")
	if v, e := Take(b, 0, 3); v != 0 || e != api.ErrShort {
		t.Errorf("a number of the unused capacity: %x %d", v, e)
	}
	if s, n, e := TakeText(b, 9); s != nil || n != 0 || e != api.ErrShort {
		t.Errorf("a text of the unused capacity: %x %d %d", s, n, e)
	}
}

// P1.2: a text is its length in two bytes, and itself.
func TestTextForm(t *testing.T) {
	for _, x := range []struct{ b, s, want string }{
		{"", "", "\x00\x00"},
		{"z", "", "z\x00\x00"},
		{"", "a", "\x01\x00a"},
		{"xy", "abc", "xy\x03\x00abc"},
		{"", "\x00\xff", "\x02\x00\x00\xff"},
	} {
		if got := Text([]byte(x.b), []byte(x.s)); string(got) != x.want {
			t.Errorf("Text(%q, %q): %q, not %q", x.b, x.s, got, x.want)
		}
	}
	if got := Text(nil, nil); string(got) != "\x00\x00" {
		t.Errorf("Text of nothing: %q", got)
	}
}

// P1.2: TakeText reads what Text wrote, up to the longest text that there may be.
func TestTakeTextReadsText(t *testing.T) {
	for _, size := range []int{0, 1, 2, 255, 256, 257, 65534, 65535} {
		s := make([]byte, size)
		for i := range s {
			s[i] = byte(i*7 + 1)
		}
		b := append(Text(nil, s), 1, 2, 3)
		for _, most := range []int{size, size + 1, math.MaxInt} {
			got, n, e := TakeText(b, most)
			if !bytes.Equal(got, s) || n != size+2 || e != api.OK {
				t.Errorf("%d bytes, at most %d: %d bytes, %d %d", size, most, len(got), n, e)
			}
		}
		if got, n, e := TakeText(b, size-1); got != nil || n != 0 || e != api.ErrLong {
			t.Errorf("%d bytes, at most one less: %d bytes, %d %d", size, len(got), n, e)
		}
	}
}

// P1.2: the errors of TakeText, in their order: no length, too long, no end.
func TestTakeTextErrors(t *testing.T) {
	for _, x := range []struct {
		b    string
		most int
		want api.Errno
	}{
		{"", 9, api.ErrShort},
		{"", -1, api.ErrShort},
		{"\x00", 9, api.ErrShort},
		{"\x09", 0, api.ErrShort},
		{"\x00\x00", -1, api.ErrLong},
		{"\x00\x00", math.MinInt, api.ErrLong},
		{"\x01\x00", 0, api.ErrLong},
		{"\x01\x00a", 0, api.ErrLong},
		{"\x05\x00abc", 4, api.ErrLong},
		{"\x05\x00abcd", 5, api.ErrShort},
		{"\x05\x00", 5, api.ErrShort},
		{"\xff\xffa", 65534, api.ErrLong},
		{"\xff\xffa", 65535, api.ErrShort},
		{"\x00\x01a", 255, api.ErrLong},
		{"\x00\x01a", 256, api.ErrShort},
	} {
		s, n, e := TakeText([]byte(x.b), x.most)
		if e != x.want || n != 0 || s != nil {
			t.Errorf("TakeText(%q, %d): %q %d %d, not %d", x.b, x.most, s, n, e, x.want)
		}
	}
}

// P1.2, R1: a text beyond what two bytes tell ends without a panic, and leaves its arguments alone.
func TestTextTooLong(t *testing.T) {
	for _, size := range []int{65536, 65537, 200000} {
		b, intact := spare("ab")
		s := bytes.Repeat([]byte{'s'}, size)
		got := Text(b, s)
		if !intact() || bytes.Count(s, []byte{'s'}) != size {
			t.Errorf("%d bytes: an argument is changed", size)
		}
		if len(got) > 0 && (shares(got, 0, b, 0) || shares(got, len(got)-1, s, size-1)) {
			t.Errorf("%d bytes: the answer shares memory with an argument", size)
		}
	}
}

// R3: Put and Text leave their arguments alone, the unused capacity too, and answer new memory.
func TestPutAndTextAnswerNewMemory(t *testing.T) {
	for n := -1; n <= 9; n++ {
		b, intact := spare("abc")
		got := Put(b, math.MaxUint64, n)
		if !intact() {
			t.Errorf("Put of %d bytes changes its argument", n)
		}
		if shares(got, 0, b, 0) {
			t.Errorf("Put of %d bytes shares memory with its argument", n)
		}
		_ = append(got, "more"...)
		if !intact() {
			t.Errorf("what is put behind Put's answer of %d bytes reaches its argument", n)
		}
	}
	for _, text := range []string{"", "d", "defgh"} {
		b, intact := spare("abc")
		s, also := spare(text)
		got := Text(b, s)
		if !intact() || !also() {
			t.Errorf("Text of %q changes an argument", text)
		}
		if shares(got, 0, b, 0) || text != "" && shares(got, 5, s, 0) {
			t.Errorf("Text of %q shares memory with an argument", text)
		}
	}
}

// R3: one slice as both arguments, or as overlapping ones, is no trap.
func TestTextOfOverlappingArguments(t *testing.T) {
	whole := []byte("abcdef")
	if got := Text(whole[:3], whole[3:]); string(got) != "abc\x03\x00def" || string(whole) != "abcdef" {
		t.Errorf("a text behind its own head: %q of %q", got, whole)
	}
	if got := Text(whole, whole); string(got) != "abcdef\x06\x00abcdef" || string(whole) != "abcdef" {
		t.Errorf("a text behind itself: %q of %q", got, whole)
	}
}

// R3: what TakeText answers is new memory, and taking changes nothing.
func TestTakeTextAnswersNewMemory(t *testing.T) {
	b, intact := spare("\x03\x00abcd")
	s, n, e := TakeText(b, 3)
	if string(s) != "abc" || n != 5 || e != api.OK {
		t.Fatalf("a text: %q %d %d", s, n, e)
	}
	if shares(s, 0, b, 2) {
		t.Error("the text shares memory with its argument")
	}
	_ = append(s, "more"...)
	if !intact() {
		t.Error("what is put behind the text reaches the argument")
	}
}

// R4: the same call answers the same, and no answer shares memory with another.
func TestAnswersAreIndependent(t *testing.T) {
	b := []byte("ab")
	first, second := Put(b, 7, 1), Put(b, 7, 1)
	if !bytes.Equal(first, second) || shares(first, 0, second, 0) {
		t.Errorf("two answers of Put: %x %x", first, second)
	}
	e := Text(nil, b)
	s1, _, _ := TakeText(e, 2)
	s2, _, _ := TakeText(e, 2)
	if !bytes.Equal(s1, s2) || shares(s1, 0, s2, 0) {
		t.Errorf("two answers of TakeText: %x %x", s1, s2)
	}
}
