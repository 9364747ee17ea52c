package script

import "viaduct/scan"

// mostNumber is the greatest number that a command takes.
const mostNumber = 1<<31 - 1

// reader takes the words behind a command's first one from the left, as many as were counted. Behind the first word that is not of its form it reads nothing more: that one's error is the command's.
type reader struct {
	words []string // those not yet taken
	err   error
}

func (r *reader) number() int {
	return int(read(r, func(word string) (uint64, error) { return scan.Number(word, mostNumber) }))
}

func (r *reader) signed() int {
	return read(r, scan.Signed)
}

func (r *reader) list() []int {
	return read(r, scan.List)
}

// read: the next word in its form; the zero value, if it is not read.
func read[T any](r *reader, form func(string) (T, error)) T {
	var value T
	if r.err == nil {
		value, r.err = form(r.words[0])
		r.words = r.words[1:]
	}
	return value
}
