package vir

import (
	"slices"

	"pigeonhole/api"
	"pigeonhole/lines"
)

// tongue is how instructions of a function are written down.
func tongue() lines.Tongue {
	return lines.Tongue{
		Forms: []lines.Form{
			lines.FormOf(api.KConst, "D = const N"),
			lines.FormOf(api.KCopy, "D = copy A"),
			lines.FormOf(api.KOp, "D = OP").WithArgs(1, 2),
			lines.FormOf(api.KLoad, "D = load A"),
			lines.FormOf(api.KStore, "store A B"),
			lines.FormOf(api.KCall, "call NAME").WithArgs(0, lines.Any),
			lines.FormOf(api.KCall, "D = call NAME").WithArgs(0, lines.Any),
			lines.FormOf(api.KBr, "br A T F"),
			lines.FormOf(api.KJump, "jump T"),
			lines.FormOf(api.KRet, "ret A"),
		},
		Register: lines.Number,
		Word:     lines.Numeral,
	}
}

// isPlain tells whether x can be written down.
func isPlain(t lines.Tongue, x api.Ins) bool {
	// A great list need not be written down for that.
	if len(x.Args) > api.MaxArgs {
		return false
	}
	// What x's form has no part for, or what cannot stand there, is not read as it was.
	y, err := t.Read(t.Words(x))
	return err == api.OK && same(x, y)
}

// same tells whether two instructions are one.
func same(x, y api.Ins) bool {
	return x.Kind == y.Kind && x.D == y.D && x.A == y.A && x.B == y.B && x.N == y.N && x.T == y.T && x.F == y.F &&
		x.Name == y.Name && slices.Equal(x.Args, y.Args)
}
