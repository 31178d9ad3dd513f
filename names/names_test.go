package names

import (
	"bytes"
	"strings"
	"testing"

	"scriptory/api"
)

// letters and others are the signs that a name may have: at any place, and only behind the first one.
const (
	letters = "abcdefghijklmnopqrstuvwxyz"
	others  = "0123456789-."
)

// some has names of every sort, in their order: short and long ones, prefixes of others, the least and the greatest signs.
var some = []string{
	"a", "a-", "a--", "a-z", "a.", "a.b", "a0", "a9", "aa", "aaaaaaaaaaaaa", "aaaaaaaaaaaaaa", "aaaaaaaaaaaaab", "aaaaaaaaaaaaaz",
	"ab", "az", "b", "b-c.d-0123-9.z", "m0", "z", "z-", "z9", "zz", "zzzzzzzzzzzzzz",
}

// none has texts of every sort that are no names.
var none = []string{
	"", "-", ".", "0", "9", "-a", ".a", "0a", "A", "Z", "aA", "a b", " a", "a ", "a_", "_a", "a/", "a,", "a:", "a`", "a{", "`", "{",
	"\x00", "a\x00", "a\x00b", "\x00a", "a\n", "a\x7f", "a\x80", "\xff", "a\xff", "\xe4", "ä", "aä", "ａ", "a\u0430", "aé",
	"aaaaaaaaaaaaaaa", "a-23456789.1234", strings.Repeat("a", 28), strings.Repeat("a", 256+5), strings.Repeat("ä", 7),
}

// key writes the key of P3.2 by its places.
func key(kind byte, a, b string) (k [api.Key]byte) {
	k[0] = kind
	for i := range len(a) {
		k[2+i] = a[i]
	}
	for i := range len(b) {
		k[17+i] = b[i]
	}
	return k
}

// isName is what P3.1 asks for of a name, said by lists of signs.
func isName(s string) bool {
	if len(s) < 1 || len(s) > 14 || strings.IndexByte(letters, s[0]) < 0 {
		return false
	}
	for i := range len(s) {
		if strings.IndexByte(letters+others, s[i]) < 0 {
			return false
		}
	}
	return true
}

// P3.1: names, and what is none.
func TestMay(t *testing.T) {
	for _, s := range some {
		if !May(s) {
			t.Errorf("%q is no name", s)
		}
	}
	for _, s := range none {
		if May(s) {
			t.Errorf("%q is a name", s)
		}
	}
}

// P3.1: every byte at every place of a name of every length.
func TestMaySigns(t *testing.T) {
	for size := 1; size <= 14; size++ {
		for at := range size {
			for c := range 256 {
				b := bytes.Repeat([]byte{'q'}, size)
				b[at] = byte(c)
				want := strings.IndexByte(letters, byte(c)) >= 0 || at > 0 && strings.IndexByte(others, byte(c)) >= 0
				if got := May(string(b)); got != want {
					t.Errorf("May(%q): %t", b, got)
				}
			}
		}
	}
}

// P3.1: a name has 1 to 14 bytes, whatever it is made of.
func TestMayLengths(t *testing.T) {
	for size := range 600 {
		for _, s := range []string{strings.Repeat("z", size), ("a" + strings.Repeat("-", size))[:size]} {
			if got := May(s); got != (size >= 1 && size <= 14) {
				t.Errorf("a text of %d bytes: %t", size, got)
			}
		}
	}
}

// bytewise is what P3.1 asks for of an order, said byte by byte.
func bytewise(a, b string) bool {
	for i := range min(len(a), len(b)) {
		if a[i] != b[i] {
			return a[i] < b[i]
		}
	}
	return len(a) < len(b)
}

// P3.1: the order at its edges: prefixes, bytes beyond 127, texts that are no names.
func TestLess(t *testing.T) {
	for _, x := range []struct {
		a, b string
		want bool
	}{
		{"", "", false}, {"", "a", true}, {"a", "", false}, {"", "\x00", true},
		{"a", "a", false}, {"a", "b", true}, {"b", "a", false},
		{"a", "aa", true}, {"aa", "a", false}, {"a", "a\x00", true}, {"ab", "b", true}, {"b", "ab", false},
		{"a-", "a.", true}, {"a.", "a0", true}, {"a9", "aa", true}, {"Z", "a", true}, {"a", "Z", false},
		{"z", "\x80", true}, {"\x7f", "\xff", true}, {"\xff", "\x7f", false}, {"ä", "z", false}, {"\xc3", "ä", true},
		{"a10", "a9", true}, {"a9", "a10", false},
	} {
		if got := Less(x.a, x.b); got != x.want {
			t.Errorf("Less(%q, %q): %t", x.a, x.b, got)
		}
	}
}

// P3.1: every two short texts over bytes at the edges.
func TestLessOfAll(t *testing.T) {
	texts := []string{""}
	for i := 0; len(texts) < 1+5+25+125; i++ {
		for _, c := range []byte{0, 'a', 0x7f, 0x80, 0xff} {
			texts = append(texts, texts[i]+string([]byte{c}))
		}
	}
	for _, a := range texts {
		for _, b := range texts {
			if got := Less(a, b); got != bytewise(a, b) {
				t.Errorf("Less(%q, %q): %t", a, b, got)
			}
		}
	}
}

// P3.2: the chapter's example, and keys at the edges, byte by byte.
func TestKeyForm(t *testing.T) {
	for _, x := range []struct {
		kind byte
		a, b string
		want string
	}{
		{1, "a", "", "\x01\x00a" + strings.Repeat("\x00", 29)},
		{16, "a", "b", "\x10\x00a" + strings.Repeat("\x00", 14) + "b" + strings.Repeat("\x00", 14)},
		{255, "z-9.", "a0", "\xff\x00z-9." + strings.Repeat("\x00", 11) + "a0" + strings.Repeat("\x00", 13)},
		{2, "abcdefghijklmn", "opqrstuvwxyz-.", "\x02\x00abcdefghijklmn\x00opqrstuvwxyz-.\x00"},
		{3, "abcdefghijklmn", "", "\x03\x00abcdefghijklmn" + strings.Repeat("\x00", 16)},
		{4, "same", "same", "\x04\x00same" + strings.Repeat("\x00", 11) + "same" + strings.Repeat("\x00", 11)},
	} {
		if k, e := Key(x.kind, x.a, x.b); string(k[:]) != x.want || e != api.OK {
			t.Errorf("Key(%d, %q, %q): %x %d", x.kind, x.a, x.b, k, e)
		}
	}
}

// P3.2: TakeKey reads what Key wrote, of every kind but 0 and of names of every sort.
func TestTakeKeyReadsKey(t *testing.T) {
	for kind := 1; kind < 256; kind++ {
		for _, a := range some {
			for _, b := range append([]string{""}, some...) {
				k, e := Key(byte(kind), a, b)
				if k != key(byte(kind), a, b) || e != api.OK {
					t.Fatalf("Key(%d, %q, %q): %x %d", kind, a, b, k, e)
				}
				kind2, a2, b2, e := TakeKey(k)
				if int(kind2) != kind || a2 != a || b2 != b || e != api.OK {
					t.Fatalf("TakeKey(%x): %d %q %q %d", k, kind2, a2, b2, e)
				}
			}
		}
	}
}

// P3.2: the errors of Key: a kind 0 first, then what is no name, at either place; only the second one may be empty.
func TestKeyErrors(t *testing.T) {
	tell := func(kind byte, a, b string, want api.Errno) {
		if k, e := Key(kind, a, b); e != want || k != [api.Key]byte{} {
			t.Errorf("Key(%d, %q, %q): %x %d, not %d", kind, a, b, k, e, want)
		}
	}
	for _, bad := range none {
		for _, kind := range []byte{1, 16, 22, 255} {
			tell(kind, bad, "", api.ErrName)
			tell(kind, bad, "b", api.ErrName)
			tell(kind, bad, bad, api.ErrName)
			if bad != "" {
				tell(kind, "a", bad, api.ErrName)
			}
		}
		tell(0, bad, "", api.ErrArg)
		tell(0, "a", bad, api.ErrArg)
		tell(0, bad, bad, api.ErrArg)
	}
	tell(0, "a", "", api.ErrArg)
	tell(0, "a", "b", api.ErrArg)
}

// isKey is what P3.2 asks for of the bytes of a key, said by the zeros that there must be.
func isKey(k [api.Key]byte) bool {
	a, b := strings.TrimRight(string(k[2:17]), "\x00"), strings.TrimRight(string(k[17:]), "\x00")
	return k[0] != 0 && k[1] == 0 && isName(a) && (b == "" || isName(b))
}

// P3.2: keys with any one byte changed are read as what Key writes, or not at all.
func TestTakeKeyOfChangedKeys(t *testing.T) {
	for _, a := range some {
		for _, b := range []string{"", "a", "z.", "aaaaaaaaaaaaaa", "b-c.d-0123-9.z"} {
			for at := range api.Key {
				for c := range 256 {
					k := key(17, a, b)
					k[at] = byte(c)
					kind, a2, b2, e := TakeKey(k)
					switch {
					case isKey(k) && (e != api.OK || key(kind, a2, b2) != k):
						t.Fatalf("TakeKey(%x): %d %q %q %d", k, kind, a2, b2, e)
					case !isKey(k) && (e != api.ErrForm || kind != 0 || a2 != "" || b2 != ""):
						t.Fatalf("TakeKey(%x), which is none: %d %q %q %d", k, kind, a2, b2, e)
					}
				}
			}
		}
	}
}

// P3.2: what no Key returns.
func TestTakeKeyErrors(t *testing.T) {
	zeros := func(n int) string { return strings.Repeat("\x00", n) }
	for what, s := range map[string]string{
		"nothing":                            zeros(32),
		"a kind without a name":              "\x01" + zeros(31),
		"a kind 0":                           zeros(2) + "a" + zeros(29),
		"a byte 1 that isn't 0":              "\x01\x01a" + zeros(29),
		"no first name":                      "\x01" + zeros(16) + "b" + zeros(14),
		"a first name that begins late":      "\x01\x00\x00a" + zeros(28),
		"a second name that begins late":     "\x01\x00a" + zeros(15) + "b" + zeros(13),
		"a zero within the first name":       "\x01\x00a\x00a" + zeros(27),
		"a zero within the second name":      "\x01\x00a" + zeros(14) + "b\x00b" + zeros(12),
		"a first name of 15 bytes":           "\x01\x00aaaaaaaaaaaaaaa" + zeros(15),
		"a second name of 15 bytes":          "\x01\x00a" + zeros(14) + "bbbbbbbbbbbbbbb",
		"a byte at the first name's end":     "\x01\x00a" + zeros(13) + "a" + zeros(15),
		"a byte at the second name's end":    "\x01\x00a" + zeros(28) + "a",
		"a first name that begins by -":      "\x01\x00-" + zeros(29),
		"a second name that begins by 0":     "\x01\x00a" + zeros(14) + "0" + zeros(14),
		"a capital in the first name":        "\x01\x00aA" + zeros(28),
		"a byte of 255 in the second name":   "\x01\x00a" + zeros(14) + "b\xff" + zeros(13),
		"bytes of 255":                       strings.Repeat("\xff", 32),
		"letters where a byte 0 ought to be": strings.Repeat("a", 32),
	} {
		kind, a, b, e := TakeKey([api.Key]byte([]byte(s)))
		if e != api.ErrForm || kind != 0 || a != "" || b != "" {
			t.Errorf("%s: %d %q %q %d", what, kind, a, b, e)
		}
	}
}

// What follows: keys of one kind are in the order of their names, by the first one, then by the second one.
func TestKeysInOrder(t *testing.T) {
	seconds := append([]string{""}, some...)
	var last [api.Key]byte
	for _, a := range some {
		for _, b := range seconds {
			k, e := Key(20, a, b)
			if e != api.OK || bytes.Compare(last[:], k[:]) >= 0 {
				t.Fatalf("the key of %q and %q: %x %d behind %x", a, b, k, e, last)
			}
			last = k
		}
	}
	for i := range len(some) - 1 {
		if !Less(some[i], some[i+1]) || Less(some[i+1], some[i]) {
			t.Errorf("the keys and Less order %q and %q otherwise", some[i], some[i+1])
		}
	}
}

// R1: a text of any length ends without a panic.
func TestLongTexts(t *testing.T) {
	long := strings.Repeat("a", 1<<24)
	if May(long) || Less(long, long) || !Less(long, long+"a") || !Less("a", long) {
		t.Error("a long text is a name, or in another order")
	}
	if k, e := Key(1, "a", long); e != api.ErrName || k != [api.Key]byte{} {
		t.Errorf("the key of a long text: %x %d", k, e)
	}
}

// R3, R4: the same call answers the same, whatever was done to an earlier answer, and leaves its argument as it was.
func TestAnswersAreIndependent(t *testing.T) {
	first, _ := Key(5, "abc", "de")
	was := first
	TakeKey(first)
	if first != was {
		t.Errorf("TakeKey changes its argument: %x", first)
	}
	_, a, b, _ := TakeKey(first)
	clear(first[:])
	if a != "abc" || b != "de" {
		t.Errorf("the names follow the key: %q %q", a, b)
	}
	if again, e := Key(5, "abc", "de"); again != was || e != api.OK {
		t.Errorf("the second answer: %x %d", again, e)
	}
}
