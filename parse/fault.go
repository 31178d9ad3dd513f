package parse

import (
	"errors"
	"slices"
	"strconv"

	"scriptory/api"
	"scriptory/cause"
)

// fault is an error of a kind. Only an ErrParse has a place.
type fault struct {
	kind  api.Errno
	at    int
	inner error
}

func (f *fault) Error() string {
	return "error " + strconv.Itoa(int(f.kind)) + " at " + strconv.Itoa(f.at)
}

// Unwrap returns the error that f wraps.
func (f *fault) Unwrap() error { return f.inner }

// bracketed wraps an error of what stands in the brackets that open at from.
type bracketed struct {
	from  int
	inner error
}

func (b *bracketed) Error() string {
	return "in the brackets from " + strconv.Itoa(b.from) + " on: " + b.inner.Error()
}

// Unwrap returns the error that b wraps.
func (b *bracketed) Unwrap() error { return b.inner }

// misfit returns the error of a byte that cannot follow the bytes before it.
func misfit(at int) error { return &fault{kind: api.ErrParse, at: at} }

// beyond returns the error of a limit that why tells is exceeded, nil if it tells of none.
func beyond(why api.Errno) error {
	if why == api.OK {
		return nil
	}
	return &fault{kind: api.ErrLimit, inner: &fault{kind: why}}
}

// inside wraps an error of what stands in the brackets that open at from. It leaves nil as it is.
func inside(from int, inner error) error {
	if inner == nil {
		return nil
	}
	return &bracketed{from, inner}
}

// code returns the code of err's chain, and its place if that is an ErrParse.
func code(err error) (e api.Errno, at int) {
	var kinds []api.Errno
	var f *fault
	// Brackets have no kind: errors.As goes through them to the next fault inwards. The innermost one tells the place.
	for errors.As(err, &f) {
		kinds = append(kinds, f.kind)
		err, at = f.inner, f.at
	}
	slices.Reverse(kinds)
	return cause.Code(kinds, at)
}
