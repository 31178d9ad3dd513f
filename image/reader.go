package image

import (
	"errors"

	"scriptory/api"
	"scriptory/least"
	"scriptory/octet"
)

// noClass stands for the class of the run before the first one.
const noClass = -1

// reader goes over an image. Each of its methods that reads something stands behind it afterwards, or answers an error and isn't asked again.
type reader struct {
	b    []byte
	next int // the number of the next byte
}

// read returns the minimal machine whose image is all of b.
func read(b []byte) (api.Dfa, error) {
	r := &reader{b: b}
	d, err := r.machine()
	if err == nil {
		err = r.end()
	}
	// Only now, since it is d as a whole that this is about.
	if err == nil && !least.Is(d) {
		err = in("the machine", kind(api.ErrForm))
	}
	return d, err
}

// machine reads a machine, be it minimal or not.
func (r *reader) machine() (d api.Dfa, err error) {
	states, err := r.number(1, api.MaxStates)
	if err != nil {
		return d, in("the number of states", err)
	}
	top, err := r.number(0, lastByte)
	if err != nil {
		return d, in("the number of classes", err)
	}
	if d.Class, err = r.classes(top); err != nil {
		return d, in("the classes", err)
	}
	d.Next, d.Ends, err = r.states(states, top+1)
	return d, in("the states", err)
}

// classes reads runs, whose greatest class is at most top, as the class of each byte.
func (r *reader) classes(top int) (class [256]uint8, err error) {
	more, err := r.number(0, lastByte)
	if err != nil {
		return class, in("the number of runs", err)
	}
	for from, before := 0, noClass; more >= 0; more-- {
		// Behind a run that ends at 255, from is beyond all bytes, so that no byte fits there.
		first := from
		if more == 0 {
			first = max(from, lastByte)
		}
		last, c, err := r.run(first, top, before)
		if err != nil {
			return class, in("a run", err)
		}
		for b := from; b <= last; b++ {
			class[b] = uint8(c)
		}
		from, before = last+1, c
	}
	return class, nil
}

// run reads a run: the last byte, which is at least first, and the class, which is at most top and not that of the run before.
func (r *reader) run(first, top, before int) (last, class int, err error) {
	if last, err = r.number(first, lastByte); err != nil {
		return 0, 0, in("the last byte", err)
	}
	class, err = r.number(0, top)
	if err == nil && class == before {
		err = r.misfit()
	}
	return last, class, in("the class", err)
}

// states reads n states, each with as many ways as there are classes.
func (r *reader) states(n, classes int) (next [][]int, ends []bool, err error) {
	for range n {
		end, err := r.number(0, 1)
		if err != nil {
			return nil, nil, in("an end", err)
		}
		row := make([]int, classes)
		for c := range row {
			if row[c], err = r.number(0, n-1); err != nil {
				return nil, nil, in("a way", err)
			}
		}
		next, ends = append(next, row), append(ends, end == 1)
	}
	return next, ends, nil
}

// end checks that no byte follows: that there is none to read is as it should be.
func (r *reader) end() error {
	if _, err := r.any(); !errors.Is(err, kind(api.ErrShort)) {
		return in("the end", r.misfit())
	}
	return nil
}

// number reads a byte from low to high.
func (r *reader) number(low, high int) (int, error) {
	v, err := r.any()
	if err == nil && (v < low || v > high) {
		err = r.misfit()
	}
	return v, err
}

// any reads a byte, whatever it is.
func (r *reader) any() (int, error) {
	v, e := octet.Take(r.b, r.next, 1)
	if e != api.OK {
		return 0, at(r.next, e)
	}
	r.next++
	return int(v), nil
}

// misfit returns the error of the byte that was read last: it cannot follow those before it.
func (r *reader) misfit() error { return at(r.next-1, api.ErrForm) }
