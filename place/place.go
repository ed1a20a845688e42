// Package place: errors with the place where they are, and without it.
package place

import (
	"errors"

	"pewholder/api"
)

// First hands each of a list, with its number, to a function, and answers the first error, with its place.
func First[T any](l []T, wrong func(int, T) error) error {
	for i, x := range l {
		if err := wrong(i, x); err != nil {
			return &api.Fault{At: i, Err: err}
		}
	}
	return nil
}

// Bare is an error without its place.
func Bare(err error) error {
	var f *api.Fault
	if errors.As(err, &f) {
		return f.Err
	}
	return err
}
