// Package ins tells what an instruction of a function writes and reads, and where it goes on.
package ins

import (
	"iter"
	"slices"

	"pigeonhole/api"
)

// Nowhere is the D of a call whose value is not wanted.
const Nowhere = -1

// IsEnd tells whether x is one that ends a block.
func IsEnd(x api.Ins) bool {
	return x.Kind == api.KBr || x.Kind == api.KJump || x.Kind == api.KRet
}

// Reads goes over the registers that x reads.
func Reads(x api.Ins) iter.Seq[int] {
	switch x.Kind {
	case api.KCopy, api.KLoad, api.KBr, api.KRet:
		return each(x.A)
	case api.KStore:
		return each(x.A, x.B)
	case api.KOp, api.KCall:
		return each(x.Args...)
	}
	return each()
}

// Writes goes over the register that x writes, if it writes one.
func Writes(x api.Ins) iter.Seq[int] {
	switch x.Kind {
	case api.KConst, api.KCopy, api.KOp, api.KLoad:
		return each(x.D)
	case api.KCall:
		if x.D != Nowhere {
			return each(x.D)
		}
	}
	return each()
}

// Targets goes over the blocks that x goes on to.
func Targets(x api.Ins) iter.Seq[int] {
	switch x.Kind {
	case api.KBr:
		return each(x.T, x.F)
	case api.KJump:
		return each(x.T)
	}
	return each()
}

func each(l ...int) iter.Seq[int] { return slices.Values(l) }
