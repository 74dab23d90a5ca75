package parser_test

import "pigeonhole/api"

// The chapter's grammar as the language of a regular expression, which is derived by each token in its turn: what is
// left has a text behind it for as long as there is one at all, so the first token by which nothing is left is the
// first one at which the tokens cannot go on.

// form is a set of rows of tokens; nil is the set of none.
type form interface {
	ends() bool       // is there the empty row among them?
	by(c letter) form // what stands behind c in those that begin with it
}

// letter is a token: N a name, 0 a number up to 1, 9 a greater one, $ the end, else the word or sign itself.
type letter string

type (
	nothing struct{}  // the empty row
	fault   api.Errno // the rows that have led to an error
	then    struct{ a, b form }
	either  struct{ a, b form }
	times   struct { // from least to most of x
		least, most int
		x           form
	}
	leads struct { // the token leads to an error
		c   letter
		err api.Errno
	}
)

func (c letter) ends() bool    { return false }
func (nothing) ends() bool     { return true }
func (fault) ends() bool       { return false }
func (x then) ends() bool      { return x.a.ends() && x.b.ends() }
func (x either) ends() bool    { return x.a.ends() || x.b.ends() }
func (x times) ends() bool     { return x.least == 0 }
func (leads) ends() bool       { return false }
func (nothing) by(letter) form { return nil }
func (f fault) by(letter) form { return f }

func (c letter) by(d letter) form {
	if c == d {
		return nothing{}
	}
	return nil
}

func (x then) by(c letter) form {
	l := behind(x.a.by(c), x.b)
	if x.a.ends() {
		return one(l, x.b.by(c))
	}
	return l
}

func (x either) by(c letter) form { return one(x.a.by(c), x.b.by(c)) }

func (x times) by(c letter) form {
	first := x.x.by(c)
	if first != nil && first != fault(api.ErrDepth) && x.most == 0 {
		return fault(api.ErrLong)
	}
	return behind(first, times{max(x.least-1, 0), x.most - 1, x.x})
}

func (x leads) by(c letter) form {
	if c == x.c {
		return fault(x.err)
	}
	return nil
}

func behind(a, b form) form {
	switch a.(type) {
	case nil, fault:
		return a
	case nothing:
		return b
	}
	return then{a, b}
}

// one is that of two forms which is there. The grammar leaves no token two ways on.
func one(a, b form) form {
	if a != nil && b != nil {
		panic("the grammar has two ways on")
	}
	if a == nil {
		return b
	}
	return a
}

func row(l ...form) form {
	var all form = nothing{}
	for i := len(l) - 1; i >= 0; i-- {
		all = then{l[i], all}
	}
	return all
}

func maybe(l ...form) form { return either{nothing{}, row(l...)} }

func some(least int, x form) form { return times{least, 200, x} }

// registers is the form of a register that is so deep, within the other parts of it.
func registers(deep int) form {
	if deep > 6 {
		return leads{"reg", api.ErrDepth}
	}
	at := row(letter("at"), number)
	if deep == 1 {
		at = nothing{}
	}
	return row(letter("reg"), name, number, at, maybe(letter("{"), some(1, registers(deep+1)), letter("}")))
}

var (
	name    form = letter("N")
	number  form = either{letter("0"), letter("9")}
	operand      = row(name, maybe(letter(":"), name))
	grammar      = row(letter("machine"), name, letter("{"),
		some(0, registers(1)),
		some(0, row(letter("class"), name, letter("="), some(1, name))),
		some(0, row(letter("op"), name, operand, letter("="), operand, maybe(operand),
			maybe(letter("tie"), either{letter("0"), leads{"9", api.ErrArg}}), maybe(letter("clob"), some(1, name)))),
		maybe(letter("args"), some(1, name)), maybe(letter("result"), name), maybe(letter("saved"), some(1, name)),
		letter("slots"), number, letter("}"), letter("$"))
)

// letterOf is the letter of a token that the lexer takes.
func letterOf(s string) letter {
	switch s {
	case "machine", "reg", "at", "class", "op", "tie", "clob", "args", "result", "saved", "slots", "{", "}", "=", ":":
		return letter(s)
	case "":
		return "$"
	case "0", "1", "00", "01", "000001":
		return "0"
	}
	if s[0] <= '9' {
		return "9"
	}
	return "N"
}

// modelFault is which of the tokens l (the end's is empty) is the first at which they cannot go on, and its error.
func modelFault(l []string) (int, api.Errno) {
	left := grammar
	for i, s := range l {
		left = left.by(letterOf(s))
		if left == nil {
			return i, api.ErrSyntax
		}
		if f, ok := left.(fault); ok {
			return i, api.Errno(f)
		}
	}
	return 0, api.OK
}
