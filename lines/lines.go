// Package lines reads and writes texts of lines of words, as those of functions and of machine code are: first some
// lines of their own, then blocks of instructions, then `end`.
package lines

import (
	"iter"
	"strings"

	"pigeonhole/api"
)

const indent = "  " // ahead of an instruction

// Head reads the words of one of a text's first lines.
type Head func(words []string) api.Errno

// One is the head of a line of that word and one thing, which it reads to where it belongs.
func One[T any](word string, read func(string) (T, bool), to *T) Head {
	return func(words []string) api.Errno {
		if len(words) != 2 || words[0] != word || !Take(words[1], read, to) {
			return api.ErrSyntax
		}
		return api.OK
	}
}

// Many is the head of a line of that word and things, at most so many, which it reads to where they belong.
func Many[T any](word string, read func(string) (T, bool), most int, to *[]T) Head {
	return func(words []string) (err api.Errno) {
		if words[0] != word {
			return api.ErrSyntax
		}
		*to, err = List(words[1:], read, most)
		return err
	}
}

// Layout is what the lines of a text may be.
type Layout struct {
	Heads  []Head
	Tongue Tongue
	Blocks int // how many there may be
	Ins    int // how many instructions a block may have
}

// Read is the blocks of the text s, or the first line that cannot be and why.
func (l Layout) Read(s string) ([][]api.Ins, int, api.Errno) {
	r := reader{Layout: l}
	last := 0
	for n, line := range each(s) {
		if err := r.line(n, line); err != api.OK {
			return nil, n, err
		}
		last = n
	}
	if !r.ended {
		return nil, last + 1, api.ErrSyntax
	}
	return r.blocks, 0, api.OK
}

// each goes over the lines of s, numbered from 1 on, each with the byte 10 that ends it: what stands behind the last of
// these bytes comes last, without one.
func each(s string) iter.Seq2[int, string] {
	return func(yield func(int, string) bool) {
		n := 0
		for line := range strings.Lines(s) {
			n++
			if !yield(n, line) {
				return
			}
		}
	}
}

// reader has the blocks of the lines so far.
type reader struct {
	Layout
	blocks [][]api.Ins
	ended  bool
}

// line reads the n-th line.
func (r *reader) line(n int, line string) api.Errno {
	line, whole := strings.CutSuffix(line, "\n")
	switch {
	case !whole || r.ended:
		return api.ErrSyntax
	case n <= len(r.Heads):
		return r.Heads[n-1](strings.Split(line, " "))
	}
	return r.body(line)
}

// body reads a line behind the first ones.
func (r *reader) body(line string) api.Errno {
	ins, isIns := strings.CutPrefix(line, indent)
	switch {
	case isIns && len(r.blocks) > 0:
		return r.ins(strings.Split(ins, " "))
	case line == "block":
		return add(&r.blocks, nil, r.Blocks)
	case line == "end":
		r.ended = true
		return api.OK
	}
	return api.ErrSyntax
}

// ins reads an instruction of the last block.
func (r *reader) ins(words []string) api.Errno {
	x, err := r.Tongue.Read(words)
	if err != api.OK {
		return err
	}
	return add(&r.blocks[len(r.blocks)-1], x, r.Ins)
}

// add puts x behind l, which may have so many elements.
func add[T any](l *[]T, x T, most int) api.Errno {
	if len(*l) == most {
		return api.ErrLong
	}
	*l = append(*l, x)
	return api.OK
}
