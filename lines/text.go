package lines

import (
	"strings"

	"pigeonhole/api"
)

// Text is a text that is made line by line.
type Text struct{ strings.Builder }

// Line adds a line of words.
func (t *Text) Line(first string, more ...string) {
	t.WriteString(first)
	for _, w := range more {
		t.WriteByte(' ')
		t.WriteString(w)
	}
	t.WriteByte('\n')
}

// Blocks adds blocks of instructions, of which words tells the words, and the end.
func (t *Text) Blocks(blocks [][]api.Ins, words func(api.Ins) []string) {
	for _, b := range blocks {
		t.Line("block")
		for _, x := range b {
			l := words(x)
			t.Line(indent+l[0], l[1:]...)
		}
	}
	t.Line("end")
}
