// Package scan is layer 2: see shared/doc/02-scan.md.
package scan

import (
	"strings"

	"viaduct/api"
	"viaduct/fault"
)

// mostSigned is the greatest number that Signed and List take; Signed goes one further below 0.
const mostSigned = 1<<31 - 1

// Row is a line that has words.
type Row struct {
	Line  int
	Words []string
}

// Rows: the lines of a text that have words.
func Rows(text string) ([]Row, error) {
	if len(text) > api.MaxText {
		return nil, api.ErrLong
	}
	var rows []Row
	for number := 1; text != ""; number++ {
		var line string
		line, text, _ = strings.Cut(text, "\n")
		words, err := wordsOf(line)
		if err != nil {
			return nil, fault.At(api.AtLine, number, err)
		}
		if len(words) > 0 {
			rows = append(rows, Row{Line: number, Words: words})
		}
	}
	return rows, nil
}

// Number: the number that a word is, at most most. Signed: one that may lie below 0.
func Number(word string, most uint64) (uint64, error) {
	if !isNumeral(word) {
		return 0, api.ErrNumber
	}
	var n uint64
	for i := range len(word) {
		digit := uint64(word[i] - '0')
		// Asked ahead of the sum, which might wrap round.
		if n > most/10 || n == most/10 && digit > most%10 {
			return 0, api.ErrArg
		}
		n = n*10 + digit
	}
	return n, nil
}

func Signed(word string) (int, error) {
	sign, most := 1, uint64(mostSigned)
	switch {
	case strings.HasPrefix(word, "-0"):
		return 0, api.ErrNumber
	case strings.HasPrefix(word, "-"):
		sign, most, word = -1, mostSigned+1, word[1:]
		fallthrough
	default:
		n, err := Number(word, most)
		if err != nil {
			return 0, err
		}
		return sign * int(n), nil
	}
}

// List: the numbers that a word lists.
func List(word string) ([]int, error) {
	if word == "-" {
		return nil, nil
	}
	var list []int
	at := 0
	for part := range strings.SplitSeq(word, ",") {
		n, err := Number(part, mostSigned)
		if err != nil {
			return nil, fault.At(api.AtByte, at, err)
		}
		list = append(list, int(n))
		at += len(part) + len(",")
	}
	return list, nil
}

func wordsOf(line string) ([]string, error) {
	if len(line) > api.MaxLine {
		return nil, api.ErrLong
	}
	line, _, _ = strings.Cut(line, "#")
	words := strings.FieldsFunc(line, isGap)
	for i, word := range words {
		if !isPlain(word) {
			return nil, api.ErrWord
		}
		// A piece of the text would keep all of it.
		words[i] = strings.Clone(word)
	}
	return words, nil
}

func isGap(r rune) bool {
	return r == ' ' || r == '\t' || r == '\r'
}

func isPlain(word string) bool {
	for i := range len(word) {
		if word[i] < '!' || word[i] > '~' {
			return false
		}
	}
	return true
}

func isNumeral(word string) bool {
	if word == "" || word[0] == '0' && len(word) > 1 {
		return false
	}
	for i := range len(word) {
		if word[i] < '0' || word[i] > '9' {
			return false
		}
	}
	return true
}
