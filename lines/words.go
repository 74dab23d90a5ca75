package lines

import (
	"strconv"
	"strings"

	"pigeonhole/api"
	"pigeonhole/names"
)

const maxNumber = 99999

// Take reads a word to where it belongs, and tells whether it could be read.
func Take[T any](word string, read func(string) (T, bool), to *T) (ok bool) {
	*to, ok = read(word)
	return ok
}

// List is the things that the words are, at most so many.
func List[T any](words []string, read func(string) (T, bool), most int) ([]T, api.Errno) {
	var l []T
	for _, w := range words {
		x, ok := read(w)
		if !ok {
			return nil, api.ErrSyntax
		}
		l = append(l, x)
	}
	if len(l) > most {
		return nil, api.ErrLong
	}
	return l, api.OK
}

// Name is the name that a word is. It is a copy, so that it does not keep the text.
func Name(word string) (string, bool) {
	if !names.Is(word) {
		return "", false
	}
	return strings.Clone(word), true
}

// Integer is the number that a word is.
func Integer(word string) (int, bool) {
	n, _ := strconv.Atoi(word)
	// Atoi takes what no number is written as, too: `+1`, `01`, `-0`.
	return n, Numeral(n) == word
}

// Number is the number that a word is, of a register, a block, or how many there are of something.
func Number(word string) (int, bool) {
	n, ok := Integer(word)
	return n, ok && IsNumber(n)
}

// IsNumber tells whether n can be the number of something.
func IsNumber(n int) bool { return 0 <= n && n <= maxNumber }

// Numeral is the word of a number.
func Numeral(n int) string { return strconv.Itoa(n) }

// Numerals is the words of numbers.
func Numerals(l []int) []string {
	words := make([]string, len(l))
	for i, n := range l {
		words[i] = Numeral(n)
	}
	return words
}
