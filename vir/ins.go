package vir

import (
	"slices"
	"strings"

	"pigeonhole/api"
)

const (
	nowhere = -1          // the D of a call whose value is not wanted
	anyMany = api.MaxText // no line has so many Args
)

// form is how an instruction of a kind is written down: its parts, and behind them the Args, of which there are so many
// at least and at most. D, A, B, T, F, N and NAME stand for what the instruction has under that name, OP for the name
// of an operation, any other part for itself.
type form struct {
	kind        int
	line        string
	least, most int
}

var forms = [...]form{
	{kind: api.KConst, line: "D = const N"},
	{kind: api.KCopy, line: "D = copy A"},
	{kind: api.KOp, line: "D = OP", least: 1, most: 2},
	{kind: api.KLoad, line: "D = load A"},
	{kind: api.KStore, line: "store A B"},
	{kind: api.KCall, line: "call NAME", most: anyMany},
	{kind: api.KCall, line: "D = call NAME", most: anyMany},
	{kind: api.KBr, line: "br A T F"},
	{kind: api.KJump, line: "jump T"},
	{kind: api.KRet, line: "ret A"},
}

func (f form) parts() []string { return strings.Fields(f.line) }

// isPlain tells whether x can be written down.
func isPlain(x api.Ins) bool {
	// A great list need not be written down for that.
	return len(x.Args) <= api.MaxArgs && len(wordsOf(x)) > 0
}

// wordsOf is the words that are read as x; there are none, if x cannot be written down.
func wordsOf(x api.Ins) []string {
	for _, f := range forms {
		if f.kind != x.Kind {
			continue
		}
		words := f.words(x)
		// What the form has no part for, or what cannot stand there, is not read as it was.
		if y, err := f.read(words); err == api.OK && same(x, y) {
			return words
		}
	}
	return nil
}

// instruction is the instruction that the words of a line are.
func instruction(words []string) (api.Ins, api.Errno) {
	for _, f := range forms {
		if x, err := f.read(words); err != api.ErrSyntax {
			return x, err
		}
	}
	return api.Ins{}, api.ErrSyntax
}

// words is x in that form.
func (f form) words(x api.Ins) []string {
	var l []string
	for _, part := range f.parts() {
		l = append(l, put(x, part))
	}
	return append(l, numerals(x.Args)...)
}

// read is the instruction that the words are in that form.
func (f form) read(words []string) (api.Ins, api.Errno) {
	x := api.Ins{Kind: f.kind}
	if x.Kind == api.KCall {
		x.D = nowhere // if the form has none
	}
	parts := f.parts()
	args := len(words) - len(parts)
	if args < f.least || args > f.most {
		return x, api.ErrSyntax
	}
	for i, part := range parts {
		if !get(&x, part, words[i]) {
			return x, api.ErrSyntax
		}
	}
	var err api.Errno
	x.Args, err = list(words[len(parts):], number, api.MaxArgs)
	return x, err
}

// place is where x has the number that a part stands for; nil, if the part stands for none.
func place(x *api.Ins, part string) *int {
	switch part {
	case "D":
		return &x.D
	case "A":
		return &x.A
	case "B":
		return &x.B
	case "T":
		return &x.T
	case "F":
		return &x.F
	case "N":
		return &x.N
	}
	return nil
}

// put is the word of x that stands where a form has that part.
func put(x api.Ins, part string) string {
	if p := place(&x, part); p != nil {
		return numeral(*p)
	}
	if part == "NAME" || part == "OP" {
		return x.Name
	}
	return part
}

// get reads the word that stands where x's form has that part, and tells whether it may stand there.
func get(x *api.Ins, part, word string) bool {
	switch part {
	case "N":
		return take(word, integer, &x.N)
	case "NAME":
		return take(word, name, &x.Name)
	case "OP":
		return take(word, operation, &x.Name)
	}
	if p := place(x, part); p != nil {
		return take(word, number, p)
	}
	return word == part
}

// same tells whether two instructions are one.
func same(x, y api.Ins) bool {
	return x.Kind == y.Kind && x.D == y.D && x.A == y.A && x.B == y.B && x.N == y.N && x.T == y.T && x.F == y.F &&
		x.Name == y.Name && slices.Equal(x.Args, y.Args)
}
