// Package fault is layer 1: see shared/doc/01-fault.md.
package fault

import (
	"errors"
	"slices"
	"strconv"
	"strings"

	"viaduct/api"
)

// maxLinks is how many links of a chain count, so that one that leads back into itself ends too.
const maxLinks = 64

// At: err at a place; nil, if err is nil.
func At(kind api.Kind, at int, err error) error {
	if err == nil {
		return nil
	}
	return &api.Fault{Place: api.Place{Kind: kind, At: at}, Err: err}
}

// Code: the number of an error, 0 if it has none. Has: is e among its links?
func Code(err error) api.Errno {
	var number api.Errno
	if errors.As(counted(err, maxLinks), &number) {
		return number
	}
	return 0
}

func Has(err error, e api.Errno) bool {
	return errors.Is(counted(err, maxLinks), e)
}

// Places: the places of an error, the outermost first.
func Places(err error) []api.Place {
	var places []api.Place
	var f *api.Fault
	for rest := counted(err, maxLinks); errors.As(rest, &f); rest = f.Err {
		places = append(places, f.Place)
	}
	return places
}

// Text: its places and its number in words.
func Text(err error) string {
	var parts []string
	for _, place := range Places(err) {
		parts = append(parts, kindWord(place.Kind)+" "+strconv.Itoa(place.At))
	}
	if number := Code(err); number != 0 {
		parts = append(parts, number.Error())
	}
	return strings.Join(parts, ": ")
}

// First: the first that is not nil.
func First(errs ...error) error {
	for _, err := range errs {
		if err != nil {
			return err
		}
	}
	return nil
}

// Shift: the same, its places of a kind moved.
func Shift(err error, kind api.Kind, by int) error {
	var shifted error
	if number := Code(err); number != 0 {
		shifted = number
	}
	for _, place := range slices.Backward(Places(err)) {
		if place.Kind == kind {
			place.At += by
		}
		// Not by At: the innermost fault stands even where there is no number to wrap.
		shifted = &api.Fault{Place: place, Err: shifted}
	}
	return shifted
}

// Same: the same places and the same number?
func Same(a, b error) bool {
	return Code(a) == Code(b) && slices.Equal(Places(a), Places(b))
}

// counted makes the links of a chain that count anew, faults and the number alone. What is handed in may lead back into itself, branch, or have methods Is and As of its own: errors.Is and errors.As are sure to end, and to tell of nothing but the links, only on a copy without all that.
func counted(err error, left int) error {
	if err == nil || left == 0 {
		return nil
	}
	switch link := err.(type) {
	case api.Errno:
		return link
	case *api.Fault:
		if link == nil {
			return nil
		}
		return &api.Fault{Place: link.Place, Err: counted(link.Err, left-1)}
	}
	return counted(unwrapped(err), left-1)
}

// unwrapped is what errors.Unwrap gives; nothing, where a foreign Unwrap panics (one of a nil pointer, say).
func unwrapped(err error) (inner error) {
	defer func() {
		if recover() != nil {
			inner = nil
		}
	}()
	return errors.Unwrap(err)
}

func kindWord(kind api.Kind) string {
	switch kind {
	case api.AtLine:
		return "line"
	case api.AtByte:
		return "byte"
	case api.AtNode:
		return "node"
	case api.AtArc:
		return "arc"
	case api.AtStep:
		return "step"
	}
	return "place"
}
