package vir

import (
	"iter"
	"strings"

	"pigeonhole/api"
)

// Read is the function that s is the text of, or the first line that cannot be and why.
func Read(s string) (api.Func, int, api.Errno) {
	if len(s) > api.MaxText {
		return api.Func{}, 0, api.ErrLong
	}
	var r reader
	last := 0
	for n, line := range lines(s) {
		if err := r.line(n, line); err != api.OK {
			return api.Func{}, n, err
		}
		last = n
	}
	if !r.ended {
		return api.Func{}, last + 1, api.ErrSyntax
	}
	return r.f, 0, api.OK
}

// lines goes over the lines of s, numbered from 1 on, each with the byte 10 that ends it: what stands behind the last
// of these bytes comes last, without one.
func lines(s string) iter.Seq2[int, string] {
	return func(yield func(int, string) bool) {
		n := 0
		for line := range strings.Lines(s) {
			n++
			if !yield(n, line) {
				return
			}
		}
	}
}

// reader has what the lines so far tell of a function.
type reader struct {
	f     api.Func
	ended bool
}

// line reads the n-th line.
func (r *reader) line(n int, line string) (err api.Errno) {
	line, whole := strings.CutSuffix(line, "\n")
	if !whole || r.ended {
		return api.ErrSyntax
	}
	words := strings.Split(line, " ")
	switch n {
	case 1:
		r.f.Name, err = named(words, "func")
	case 2:
		r.f.Vregs, err = listed(words, "regs", name, api.MaxVregs)
	case 3:
		r.f.Params, err = listed(words, "params", number, api.MaxArgs)
	case 4:
		r.f.Result, err = named(words, "result")
	default:
		err = r.body(line)
	}
	return err
}

// named reads a line of that word and a name.
func named(words []string, word string) (string, api.Errno) {
	var s string
	if len(words) != 2 || words[0] != word || !take(words[1], name, &s) {
		return "", api.ErrSyntax
	}
	return s, api.OK
}

// listed reads a line of that word and a list of at most so many things.
func listed[T any](words []string, word string, read func(string) (T, bool), most int) ([]T, api.Errno) {
	if words[0] != word {
		return nil, api.ErrSyntax
	}
	return list(words[1:], read, most)
}

// body reads a line behind the first four.
func (r *reader) body(line string) api.Errno {
	ins, isIns := strings.CutPrefix(line, indent)
	switch {
	case isIns && len(r.f.Blocks) > 0:
		return r.ins(strings.Split(ins, " "))
	case line == "block":
		return add(&r.f.Blocks, nil, api.MaxBlocks)
	case line == "end":
		r.ended = true
		return api.OK
	}
	return api.ErrSyntax
}

// ins reads an instruction of the last block.
func (r *reader) ins(words []string) api.Errno {
	x, err := instruction(words)
	if err != api.OK {
		return err
	}
	return add(&r.f.Blocks[len(r.f.Blocks)-1], x, api.MaxIns)
}

// add puts x behind l, which may have so many elements.
func add[T any](l *[]T, x T, most int) api.Errno {
	if len(*l) == most {
		return api.ErrLong
	}
	*l = append(*l, x)
	return api.OK
}
