package lines

import (
	"slices"
	"strings"

	"pigeonhole/api"
	"pigeonhole/ins"
)

// Any is more than there can be of anything.
const Any = 1<<31 - 1

// Form is how an instruction of a kind is written down: its parts, and behind them its Args, of which there are so many
// at least and at most.
//
// D, A and B stand for the registers that an instruction has under these names, T and F for its blocks, N for its
// number, COUNT for one that is as those of registers are, RESULT for the register of what a call answers, NAME for its
// name, OP for that of an operation; any other part for itself.
type Form struct {
	kind        int
	parts       []string
	least, most int
}

// FormOf is the form of those parts, without Args.
func FormOf(kind int, parts string) Form { return Form{kind: kind, parts: strings.Fields(parts)} }

// WithArgs is f with so many Args at least and at most.
func (f Form) WithArgs(least, most int) Form {
	f.least, f.most = least, most
	return f
}

// writes tells whether an instruction of that form writes a register.
func (f Form) writes() bool { return slices.Contains(f.parts, "=") }

// Tongue is how instructions are written down.
type Tongue struct {
	Forms    []Form
	Register func(word string) (int, bool) // the register that a word is
	Word     func(register int) string     // the word of a register
	Result   int                           // the register of what a call answers
}

// Words is the words of x; there are none, if x has no form.
func (t Tongue) Words(x api.Ins) []string {
	for _, f := range t.Forms {
		if f.kind == x.Kind && (x.Kind != api.KCall || f.writes() == (x.D != ins.Nowhere)) {
			return t.words(f, x)
		}
	}
	return nil
}

// words is the words of x in that form.
func (t Tongue) words(f Form, x api.Ins) []string {
	l := make([]string, 0, len(f.parts)+len(x.Args))
	for _, part := range f.parts {
		l = append(l, t.put(x, part))
	}
	// Where a form has no Args, what stands there is no part of the instruction.
	if f.most > 0 {
		for _, r := range x.Args {
			l = append(l, t.Word(r))
		}
	}
	return l
}

// put is the word of x that stands where a form has that part.
func (t Tongue) put(x api.Ins, part string) string {
	switch part {
	case "D":
		return t.Word(x.D)
	case "A":
		return t.Word(x.A)
	case "B":
		return t.Word(x.B)
	case "T":
		return Numeral(x.T)
	case "F":
		return Numeral(x.F)
	case "N", "COUNT":
		return Numeral(x.N)
	case "RESULT":
		return t.Word(t.Result)
	case "NAME", "OP":
		return x.Name
	}
	return part
}

// Read is the instruction that the words of a line are.
func (t Tongue) Read(words []string) (api.Ins, api.Errno) {
	for _, f := range t.Forms {
		if x, err := t.read(f, words); err != api.ErrSyntax {
			return x, err
		}
	}
	return api.Ins{}, api.ErrSyntax
}

// read is the instruction that the words are in that form.
func (t Tongue) read(f Form, words []string) (api.Ins, api.Errno) {
	x := api.Ins{Kind: f.kind}
	if x.Kind == api.KCall {
		x.D = ins.Nowhere // if the form has none
	}
	args := len(words) - len(f.parts)
	if args < f.least || args > f.most {
		return x, api.ErrSyntax
	}
	for i, part := range f.parts {
		if !t.get(&x, part, words[i]) {
			return x, api.ErrSyntax
		}
	}
	var err api.Errno
	x.Args, err = List(words[len(f.parts):], t.Register, api.MaxArgs)
	return x, err
}

// get reads the word that stands where x's form has that part, and tells whether it may stand there.
func (t Tongue) get(x *api.Ins, part, word string) bool {
	switch part {
	case "D":
		return Take(word, t.Register, &x.D)
	case "A":
		return Take(word, t.Register, &x.A)
	case "B":
		return Take(word, t.Register, &x.B)
	case "T":
		return Take(word, Number, &x.T)
	case "F":
		return Take(word, Number, &x.F)
	case "N":
		return Take(word, Integer, &x.N)
	case "COUNT":
		return Take(word, Number, &x.N)
	case "RESULT":
		x.D = 0
		r, ok := t.Register(word)
		return ok && r == t.Result
	case "NAME":
		return Take(word, Name, &x.Name)
	case "OP":
		return Take(word, t.operation, &x.Name)
	}
	return word == part
}

// operation is the name of an operation that a word is: none that stands in its place in another form.
func (t Tongue) operation(word string) (string, bool) {
	for _, f := range t.Forms {
		if f.kind != api.KOp && f.writes() && f.parts[2] == word {
			return "", false
		}
	}
	return Name(word)
}
