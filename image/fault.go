package image

import (
	"errors"
	"strconv"

	"scriptory/api"
)

// kind is the innermost error of each chain.
type kind api.Errno

func (k kind) Error() string { return "error " + strconv.Itoa(int(k)) }

// fault wraps an error of a part of an image.
type fault struct {
	part  string
	inner error
}

func (f *fault) Error() string { return f.part + ": " + f.inner.Error() }

// Unwrap returns the error that f wraps.
func (f *fault) Unwrap() error { return f.inner }

// in wraps an error of a part of an image. It leaves nil as it is.
func in(part string, inner error) error {
	if inner == nil {
		return nil
	}
	return &fault{part, inner}
}

// at wraps an error of the byte with the number place.
func at(place int, e api.Errno) error { return in("byte "+strconv.Itoa(place), kind(e)) }

// code returns the number of err's kind.
func code(err error) api.Errno {
	var k kind
	errors.As(err, &k)
	return api.Errno(k)
}
