package mach

import (
	"pigeonhole/api"
	"pigeonhole/ins"
	"pigeonhole/names"
	"pigeonhole/table"
)

const maxIns = 64 * api.MaxIns // instructions of a block

// Check is the first error of c, and at which block and instruction it is.
func Check(t *table.Table, c api.Code) (int, int, api.Errno) {
	if t == nil {
		return 0, 0, api.ErrArg
	}
	k := &checked{t: t, c: c, ops: t.Machine().Ops, args: len(t.Args()), rules: rules()}
	if err := k.checkHead(); err != api.OK {
		return 0, 0, err
	}
	for b, block := range c.Blocks {
		if i, err := k.checkBlock(block); err != api.OK {
			return b, i, err
		}
	}
	return 0, 0, api.OK
}

// checked is code, and what its table tells of it.
type checked struct {
	t     *table.Table
	c     api.Code
	ops   []api.Op
	args  int      // how many arguments a call may have
	rules [][]rule // of the kinds
}

// rule is something that is asked of an instruction. Each leans on those ahead of it.
type rule func(*checked, api.Ins) api.Errno

// rules is what is asked of the instructions of each kind, in order.
func rules() [][]rule {
	return [][]rule{
		api.KConst:  {(*checked).checkRegs},
		api.KCopy:   {(*checked).checkRegs, (*checked).checkCopy},
		api.KOp:     {(*checked).checkOp, (*checked).checkRegs, (*checked).checkOperands},
		api.KLoad:   {(*checked).checkRegs},
		api.KStore:  {(*checked).checkRegs},
		api.KCall:   {(*checked).checkCall},
		api.KBr:     {(*checked).checkRegs, (*checked).checkTargets},
		api.KJump:   {(*checked).checkTargets},
		api.KRet:    {},
		api.KSpill:  {(*checked).checkRegs, (*checked).checkSlot},
		api.KReload: {(*checked).checkRegs, (*checked).checkSlot},
	}
}

// checkHead: what the code has beside its instructions.
func (k *checked) checkHead() api.Errno {
	switch {
	case len(k.c.Blocks) > api.MaxBlocks:
		return api.ErrLong
	case !names.Is(k.c.Name):
		return api.ErrName
	case k.c.Slots < 0 || k.c.Slots > k.t.Slots():
		return api.ErrSlot
	case len(k.c.Blocks) == 0:
		return api.ErrBlock
	}
	return api.OK
}

// checkBlock is the first error of a block, and at which instruction it is.
func (k *checked) checkBlock(block []api.Ins) (int, api.Errno) {
	if len(block) == 0 || len(block) > maxIns {
		return 0, api.ErrBlock
	}
	for i, x := range block {
		if err := k.checkIns(x, i == len(block)-1); err != api.OK {
			return i, err
		}
	}
	return 0, api.OK
}

// checkIns asks of an instruction what is asked of its kind.
func (k *checked) checkIns(x api.Ins, last bool) api.Errno {
	if x.Kind < api.KConst || x.Kind > api.KReload || ins.IsEnd(x) != last {
		return api.ErrIns
	}
	for _, check := range k.rules[x.Kind] {
		if err := check(k, x); err != api.OK {
			return err
		}
	}
	return api.OK
}

// checkOp: an operation must be one of the machine's.
func (k *checked) checkOp(x api.Ins) api.Errno {
	op, ok := k.t.Op(x.Name)
	if !ok || len(x.Args) != len(k.ops[op].Uses) {
		return api.ErrIns
	}
	return api.OK
}

// checkCall: whoever is called must have a name, the arguments registers; what is answered is where the convention has
// it, if it is wanted.
func (k *checked) checkCall(x api.Ins) api.Errno {
	if !names.Is(x.Name) || x.N < 0 || x.N > k.args || x.D != ins.Nowhere && x.D != 0 {
		return api.ErrIns
	}
	return api.OK
}

// checkRegs: what is written and read must be registers.
func (k *checked) checkRegs(x api.Ins) api.Errno {
	for _, r := range registers(x) {
		if r < 0 || r >= k.t.Regs() {
			return api.ErrReg
		}
	}
	return api.OK
}

// registers is the registers that x names; those of a call and of a ret are the convention's.
func registers(x api.Ins) []int {
	switch x.Kind {
	case api.KConst, api.KReload:
		return []int{x.D}
	case api.KCopy, api.KLoad:
		return []int{x.D, x.A}
	case api.KOp:
		return append([]int{x.D}, x.Args...)
	case api.KStore:
		return []int{x.A, x.B}
	case api.KBr, api.KSpill:
		return []int{x.A}
	}
	return nil
}

// checkCopy: a copy must have all bits of what is copied, and no more.
func (k *checked) checkCopy(x api.Ins) api.Errno {
	if k.t.Place(x.D).Width != k.t.Place(x.A).Width {
		return api.ErrReg
	}
	return api.OK
}

// checkOperands: what an operation writes and reads must be what its operands may be, and one register where it is tied.
func (k *checked) checkOperands(x api.Ins) api.Errno {
	op, _ := k.t.Op(x.Name)
	for operand, r := range registers(x) {
		if !k.t.May(op, operand, r) {
			return api.ErrReg
		}
	}
	if tie := k.t.Tie(op); tie >= 0 && x.D != x.Args[tie] {
		return api.ErrReg
	}
	return api.OK
}

// checkSlot: a slot must be one of the code's own.
func (k *checked) checkSlot(x api.Ins) api.Errno {
	if x.N < 0 || x.N >= k.c.Slots {
		return api.ErrSlot
	}
	return api.OK
}

// checkTargets: where x goes must be blocks.
func (k *checked) checkTargets(x api.Ins) api.Errno {
	for b := range ins.Targets(x) {
		if b < 0 || b >= len(k.c.Blocks) {
			return api.ErrBlock
		}
	}
	return api.OK
}
