// Package bitset has sets of small numbers. Sets are values: no call changes one.
package bitset

import (
	"iter"
	"math/bits"
	"slices"
)

const (
	most = 65535 // the greatest number that a set can have
	wide = 64    // the bits of a word
)

// Set is a set of numbers from 0 to 65535; the zero Set has none.
//
// The last word is never 0, so that sets of the same numbers have the same words.
type Set struct{ words []uint64 }

// Of is the set of the numbers of l that a set can have.
func Of(l []int) Set {
	top := -1
	for _, n := range l {
		if fits(n) {
			top = max(top, n)
		}
	}
	if top < 0 {
		return Set{}
	}
	words := make([]uint64, top/wide+1)
	for _, n := range l {
		if fits(n) {
			words[n/wide] |= bit(n)
		}
	}
	return Set{words}
}

// Has tells whether n is in s.
func (s Set) Has(n int) bool {
	return fits(n) && at(s.words, n/wide)&bit(n) != 0
}

// With is s and n.
func (s Set) With(n int) Set {
	if !fits(n) {
		return Set{slices.Clone(s.words)}
	}
	words := make([]uint64, max(len(s.words), n/wide+1))
	copy(words, s.words)
	words[n/wide] |= bit(n)
	return Set{words}
}

// Without is s but n.
func (s Set) Without(n int) Set {
	words := slices.Clone(s.words)
	if s.Has(n) {
		words[n/wide] &^= bit(n)
	}
	return Set{trim(words)}
}

// And is what is in both.
func (s Set) And(t Set) Set {
	return Set{join(s.words, t.words, func(a, b uint64) uint64 { return a & b })}
}

// Or is what is in one of them or both.
func (s Set) Or(t Set) Set {
	return Set{join(s.words, t.words, func(a, b uint64) uint64 { return a | b })}
}

// Sub is what is in s alone.
func (s Set) Sub(t Set) Set {
	return Set{join(s.words, t.words, func(a, b uint64) uint64 { return a &^ b })}
}

// Equal tells whether both have the same numbers.
func (s Set) Equal(t Set) bool { return slices.Equal(s.words, t.words) }

// Len is how many numbers s has.
func (s Set) Len() int {
	n := 0
	for _, w := range s.each() {
		n += bits.OnesCount64(w)
	}
	return n
}

// List is the numbers of s, rising.
func (s Set) List() []int {
	l := make([]int, 0, s.Len())
	for first, w := range s.each() {
		for rest := w; rest != 0; rest &= rest - 1 {
			l = append(l, first+bits.TrailingZeros64(rest))
		}
	}
	return l
}

// each goes over the words that have bits: the number of a word's first bit, and the word.
func (s Set) each() iter.Seq2[int, uint64] {
	return func(yield func(int, uint64) bool) {
		for i, w := range s.words {
			if w != 0 && !yield(i*wide, w) {
				return
			}
		}
	}
}

// fits tells whether n is a number that a set can have.
func fits(n int) bool { return 0 <= n && n <= most }

// bit is the bit of n, a number that fits, in its word.
func bit(n int) uint64 { return uint64(1) << uint(n%wide) }

// join puts two lists together place by place, in new memory; behind a list's end stand zero values.
func join[W comparable](a, b []W, put func(x, y W) W) []W {
	l := make([]W, max(len(a), len(b)))
	for i := range l {
		l[i] = put(at(a, i), at(b, i))
	}
	return trim(l)
}

// at is what stands at i in l, the zero value behind its end.
func at[W any](l []W, i int) W {
	if i < len(l) {
		return l[i]
	}
	var none W
	return none
}

// trim is l without the zero values at its end, nil if there is nothing else.
func trim[W comparable](l []W) []W {
	var none W
	n := len(l)
	for n > 0 && l[n-1] == none {
		n--
	}
	if n == 0 {
		return nil
	}
	return l[:n]
}
