package vir

import (
	"strconv"
	"strings"

	"pigeonhole/api"
	"pigeonhole/names"
)

const maxNumber = 99999

// take reads a word to where it belongs, and tells whether it could be read.
func take[T any](word string, read func(string) (T, bool), to *T) (ok bool) {
	*to, ok = read(word)
	return ok
}

// list is the things that the words are, at most so many.
func list[T any](words []string, read func(string) (T, bool), most int) ([]T, api.Errno) {
	var l []T
	for _, w := range words {
		x, ok := read(w)
		if !ok {
			return nil, api.ErrSyntax
		}
		l = append(l, x)
	}
	if len(l) > most {
		return nil, api.ErrLong
	}
	return l, api.OK
}

// name is the name that a word is. It is a copy, so that it does not keep the text.
func name(word string) (string, bool) {
	if !names.Is(word) {
		return "", false
	}
	return strings.Clone(word), true
}

// operation is the name of an operation that a word is.
func operation(word string) (string, bool) {
	switch word {
	case "const", "copy", "load", "call": // what these begin is no operation
		return "", false
	}
	return name(word)
}

// integer is the number that a word is.
func integer(word string) (int, bool) {
	n, _ := strconv.Atoi(word)
	// Atoi takes what no number is written as, too: `+1`, `01`, `-0`.
	return n, numeral(n) == word
}

// number is the number that a word is, of a register or a block.
func number(word string) (int, bool) {
	n, ok := integer(word)
	return n, ok && isNumber(n)
}

func isNumber(n int) bool { return 0 <= n && n <= maxNumber }

// numeral is the word of a number.
func numeral(n int) string { return strconv.Itoa(n) }

// numerals is the words of numbers.
func numerals(l []int) []string {
	words := make([]string, len(l))
	for i, n := range l {
		words[i] = numeral(n)
	}
	return words
}
