package cause

import (
	"errors"
	"math"
	"slices"
	"testing"

	"scriptory/api"
)

// every has all kinds that api names, OK among them, and some that it doesn't name.
var every = []api.Errno{
	api.OK, api.ErrArg, api.ErrShort, api.ErrForm, api.ErrLong, api.ErrDeep, api.ErrParse, api.ErrBudget, api.ErrLimit,
	api.ErrFull, api.ErrNone, api.ErrTaken, api.ErrDead, api.ErrSize, api.ErrName, api.ErrOver, api.ErrRot,
	-1, 17, 99, math.MinInt, math.MaxInt,
}

// ranked is the list of P2.2, as its chapter has it.
var ranked = []api.Errno{
	api.ErrDead, api.ErrRot, api.ErrFull, api.ErrParse, api.ErrLimit, api.ErrBudget, api.ErrNone, api.ErrTaken, api.ErrName, api.ErrArg,
}

// some has kinds of every sort: none, the one with a position, the list's first, middle and last ones, and two beside the list.
var some = []api.Errno{api.OK, api.ErrParse, api.ErrDead, api.ErrLimit, api.ErrArg, api.ErrShort, 99}

// chains calls f with every chain of at most most kinds of some.
func chains(most int, f func(kinds []api.Errno)) {
	var from func(kinds []api.Errno)
	from = func(kinds []api.Errno) {
		f(kinds)
		if len(kinds) == most {
			return
		}
		for _, k := range some {
			from(append(slices.Clip(kinds), k))
		}
	}
	from(nil)
}

// errorsOf returns the kinds that are errors.
func errorsOf(kinds []api.Errno) (out []api.Errno) {
	for _, k := range kinds {
		if k != api.OK {
			out = append(out, k)
		}
	}
	return out
}

// outer returns the last one of these errors, OK if there is none.
func outer(errs []api.Errno) api.Errno {
	if len(errs) == 0 {
		return api.OK
	}
	return errs[len(errs)-1]
}

// wantChain is what P2.1 asks for, said without any error.
func wantChain(kinds []api.Errno, at int, ask []api.Errno) (t Told) {
	errs := errorsOf(kinds)
	for _, k := range ask {
		t.Is = append(t.Is, slices.Contains(errs, k))
	}
	if len(kinds) > 0 && kinds[0] == api.ErrParse {
		t.Parse, t.At = true, at
	}
	t.First, t.Deep = outer(errs), len(errs)
	return t
}

// wantCode is what P2.2 asks for, said without any error.
func wantCode(kinds []api.Errno, at int) (api.Errno, int) {
	errs := errorsOf(kinds)
	for _, k := range ranked {
		if !slices.Contains(errs, k) {
			continue
		}
		if k == api.ErrParse && kinds[0] == api.ErrParse {
			return k, at
		}
		return k, 0
	}
	return outer(errs), 0
}

// same tells whether a and b tell the same.
func same(a, b Told) bool {
	return slices.Equal(a.Is, b.Is) && a.First == b.First && a.At == b.At && a.Parse == b.Parse && a.Deep == b.Deep
}

// P2.1: the chapter's example, and chains at the edges that it names.
func TestChain(t *testing.T) {
	for _, x := range []struct {
		what  string
		kinds []api.Errno
		at    int
		ask   []api.Errno
		want  Told
	}{
		{"the example", []api.Errno{api.ErrParse, api.ErrArg}, 7, []api.Errno{api.ErrParse}, Told{[]bool{true}, api.ErrArg, 7, true, 2}},
		{"nothing", nil, 7, nil, Told{}},
		{"no error", nil, 7, []api.Errno{api.OK, api.ErrArg}, Told{Is: []bool{false, false}}},
		{"nothing but OK", []api.Errno{api.OK, api.OK}, 7, []api.Errno{api.OK}, Told{Is: []bool{false}}},
		{"one error", []api.Errno{api.ErrFull}, 7, []api.Errno{api.ErrFull, api.ErrNone}, Told{[]bool{true, false}, api.ErrFull, 0, false, 1}},
		{"an error with a position alone", []api.Errno{api.ErrParse}, 0, []api.Errno{api.ErrParse}, Told{[]bool{true}, api.ErrParse, 0, true, 1}},
		{"OK isn't asked for with success", []api.Errno{api.OK, api.ErrArg}, 7, []api.Errno{api.OK, api.ErrArg}, Told{[]bool{false, true}, api.ErrArg, 0, false, 1}},
		{"OK outermost", []api.Errno{api.ErrNone, api.OK}, 7, nil, Told{nil, api.ErrNone, 0, false, 1}},
		{"OK between", []api.Errno{api.ErrParse, api.OK, api.OK, api.ErrRot}, 3, nil, Told{nil, api.ErrRot, 3, true, 2}},
		{"an ErrParse behind OK has no position", []api.Errno{api.OK, api.ErrParse}, 7, []api.Errno{api.ErrParse}, Told{[]bool{true}, api.ErrParse, 0, false, 1}},
		{"an ErrParse that wraps has no position", []api.Errno{api.ErrArg, api.ErrParse}, 7, []api.Errno{api.ErrParse}, Told{[]bool{true}, api.ErrParse, 0, false, 2}},
		{"one with a position within ones without", []api.Errno{api.ErrParse, api.ErrParse, api.ErrParse}, 7, nil, Told{nil, api.ErrParse, 7, true, 3}},
		{"the same error twice", []api.Errno{api.ErrArg, api.ErrArg}, 0, []api.Errno{api.ErrArg}, Told{[]bool{true}, api.ErrArg, 0, false, 2}},
		{"the same asked again", []api.Errno{api.ErrArg}, 0, []api.Errno{api.ErrArg, api.ErrNone, api.ErrArg, api.OK, api.ErrNone, api.OK}, Told{[]bool{true, false, true, false, false, false}, api.ErrArg, 0, false, 1}},
		{"a position below 0", []api.Errno{api.ErrParse}, math.MinInt, nil, Told{nil, api.ErrParse, math.MinInt, true, 1}},
		{"the greatest position", []api.Errno{api.ErrParse, 99}, math.MaxInt, nil, Told{nil, 99, math.MaxInt, true, 2}},
		{"kinds that api doesn't name", []api.Errno{-1, 99}, 7, []api.Errno{-1, 99, 98}, Told{[]bool{true, true, false}, 99, 0, false, 2}},
	} {
		if got := Chain(x.kinds, x.at, x.ask); !same(got, x.want) {
			t.Errorf("%s: %+v, not %+v", x.what, got, x.want)
		}
	}
}

// P2.1: every short chain, asked for every kind.
func TestChainOfAll(t *testing.T) {
	for _, at := range []int{0, 7, -3} {
		chains(5, func(kinds []api.Errno) {
			if got, want := Chain(kinds, at, every), wantChain(kinds, at, every); !same(got, want) {
				t.Fatalf("Chain(%v, %d): %+v, not %+v", kinds, at, got, want)
			}
		})
	}
}

// P2.1: each kind is found alone, and no other one with it.
func TestChainOfOne(t *testing.T) {
	for _, k := range every {
		kinds := []api.Errno{k}
		if got, want := Chain(kinds, 5, every), wantChain(kinds, 5, every); !same(got, want) {
			t.Errorf("Chain(%v): %+v, not %+v", kinds, got, want)
		}
	}
}

// P2.2: chains at the edges that the chapter names.
func TestCode(t *testing.T) {
	for _, x := range []struct {
		what  string
		kinds []api.Errno
		at    int
		code  api.Errno
		where int
	}{
		{"nothing", nil, 7, api.OK, 0},
		{"nothing but OK", []api.Errno{api.OK, api.OK}, 7, api.OK, 0},
		{"an error with a position", []api.Errno{api.ErrParse}, 7, api.ErrParse, 7},
		{"it is wrapped by a lesser one", []api.Errno{api.ErrParse, api.ErrArg}, 7, api.ErrParse, 7},
		{"it is wrapped by one beside the list", []api.Errno{api.ErrParse, api.ErrShort}, 7, api.ErrParse, 7},
		{"it is wrapped by one without a position", []api.Errno{api.ErrParse, api.ErrParse}, 7, api.ErrParse, 7},
		{"it is wrapped by a weightier one", []api.Errno{api.ErrParse, api.ErrFull}, 7, api.ErrFull, 0},
		{"an ErrParse without a position", []api.Errno{api.ErrArg, api.ErrParse}, 7, api.ErrParse, 0},
		{"an ErrParse behind OK", []api.Errno{api.OK, api.ErrParse}, 7, api.ErrParse, 0},
		{"the list goes before the chain", []api.Errno{api.ErrDead, api.ErrNone, api.ErrArg}, 7, api.ErrDead, 0},
		{"none of the list: the outermost", []api.Errno{api.ErrOver, api.ErrShort}, 7, api.ErrShort, 0},
		{"none of the list, OK outermost", []api.Errno{api.ErrShort, api.ErrSize, api.OK}, 7, api.ErrSize, 0},
		{"the list goes before the outermost", []api.Errno{api.ErrArg, api.ErrShort}, 7, api.ErrArg, 0},
		{"kinds that api doesn't name", []api.Errno{99, -1}, 7, -1, 0},
		{"a position below 0", []api.Errno{api.ErrParse}, math.MinInt, api.ErrParse, math.MinInt},
	} {
		if code, where := Code(x.kinds, x.at); code != x.code || where != x.where {
			t.Errorf("%s: %d %d, not %d %d", x.what, code, where, x.code, x.where)
		}
	}
}

// P2.2: every short chain.
func TestCodeOfAll(t *testing.T) {
	for _, at := range []int{0, 7, -3} {
		chains(5, func(kinds []api.Errno) {
			code, where := Code(kinds, at)
			if c, w := wantCode(kinds, at); code != c || where != w {
				t.Fatalf("Code(%v, %d): %d %d, not %d %d", kinds, at, code, where, c, w)
			}
		})
	}
}

// P2.2: of any two kinds the list's earlier one is the code, whichever wraps the other; beside the list, the outer one.
func TestCodeOfTwo(t *testing.T) {
	for _, in := range every {
		for _, out := range every {
			kinds := []api.Errno{in, out}
			code, where := Code(kinds, 5)
			if c, w := wantCode(kinds, 5); code != c || where != w {
				t.Errorf("Code(%v): %d %d, not %d %d", kinds, code, where, c, w)
			}
		}
	}
}

// What follows: wrapping an error hides neither it nor its position.
func TestWrappingHidesNothing(t *testing.T) {
	chains(4, func(kinds []api.Errno) {
		was := Chain(kinds, 5, every)
		for _, k := range every {
			now := Chain(append(slices.Clip(kinds), k), 5, every)
			for i, is := range was.Is {
				if is && !now.Is[i] {
					t.Fatalf("%d around %v hides %d", k, kinds, every[i])
				}
			}
			if was.Parse && (!now.Parse || now.At != was.At) {
				t.Fatalf("%d around %v hides the position", k, kinds)
			}
		}
	})
}

// Ways: errors.Is finds a kind by the errors' own Is, and errors.As the position, through all that wraps them.
func TestErrorsThatWrap(t *testing.T) {
	chain := wrap([]api.Errno{api.ErrParse, api.ErrParse, api.ErrArg}, 7)
	var p *placed
	if !errors.As(chain, &p) || p.at != 7 {
		t.Errorf("the position isn't found: %+v", p)
	}
	if !errors.Is(chain, kind(api.ErrParse)) || !errors.Is(chain, kind(api.ErrArg)) || errors.Is(chain, kind(api.ErrNone)) {
		t.Error("the kinds aren't found")
	}
	if errors.Is(chain, errors.New("another")) || errors.Is(chain, kind(api.OK)) {
		t.Error("there is an error that isn't there")
	}
	if wrap([]api.Errno{api.OK}, 7) != nil {
		t.Error("an empty chain is an error")
	}
	if s := chain.Error(); s != "error 1" {
		t.Errorf("the outermost error says %q", s)
	}
}

// R1: long chains and long questions end without a panic.
func TestLongChains(t *testing.T) {
	const long = 300000
	kinds := slices.Repeat([]api.Errno{api.ErrShort}, long)
	kinds[0] = api.ErrParse
	ask := []api.Errno{api.ErrParse, api.ErrShort, api.ErrNone, api.OK, 99}
	want := wantChain(kinds, 7, ask)
	want.Is = slices.Repeat(want.Is, long/len(ask))
	if got := Chain(kinds, 7, slices.Repeat(ask, long/len(ask))); !same(got, want) {
		t.Errorf("%d errors, asked %d kinds: first %d, at %d %t, deep %d", long, len(got.Is), got.First, got.At, got.Parse, got.Deep)
	}
	if code, where := Code(kinds, 7); code != api.ErrParse || where != 7 {
		t.Errorf("the code of %d errors: %d %d", long, code, where)
	}
}

// R3: neither call changes an argument, nor the unused capacity behind it.
func TestArgumentsStay(t *testing.T) {
	kinds := []api.Errno{api.ErrParse, api.OK, api.ErrArg, api.ErrDead, api.ErrRot}
	ask := []api.Errno{api.ErrArg, api.ErrArg, api.ErrNone, api.ErrFull}
	wereKinds, wereAsked := slices.Clone(kinds), slices.Clone(ask)
	Chain(kinds[:3], 7, ask[:2])
	Code(kinds[:3], 7)
	if !slices.Equal(kinds, wereKinds) || !slices.Equal(ask, wereAsked) {
		t.Errorf("the arguments are now %v and %v", kinds, ask)
	}
}

// R3, R4: the same call answers the same, each time in new memory, whatever was done to the answer or the arguments before.
func TestAnswersAreIndependent(t *testing.T) {
	kinds, ask := []api.Errno{api.ErrParse, api.ErrArg}, []api.Errno{api.ErrParse, api.ErrNone}
	first := Chain(kinds, 7, ask)
	clear(first.Is)
	again := Chain(kinds, 7, ask)
	if !same(again, wantChain(kinds, 7, ask)) || &first.Is[0] == &again.Is[0] {
		t.Errorf("the second answer: %+v", again)
	}
	kinds[0], ask[0] = api.ErrDead, api.ErrDead
	if !slices.Equal(again.Is, []bool{true, false}) {
		t.Errorf("the answer follows its arguments: %v", again.Is)
	}
	if !same(Chain([]api.Errno{}, 7, []api.Errno{}), Chain(nil, 7, nil)) {
		t.Error("an empty slice isn't as a nil one")
	}
}
