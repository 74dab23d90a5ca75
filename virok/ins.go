package virok

import (
	"iter"

	"pigeonhole/api"
	"pigeonhole/ins"
	"pigeonhole/names"
)

// rule is something that is asked of an instruction.
type rule func(*checked, api.Ins) api.Errno

// rules is what is asked of the instructions of each kind, in order.
func rules() [][]rule {
	return [][]rule{
		api.KConst: {(*checked).checkVregs},
		api.KCopy:  {(*checked).checkVregs, (*checked).checkCopy},
		api.KOp:    {(*checked).checkOp, (*checked).checkVregs, (*checked).checkOperands},
		api.KLoad:  {(*checked).checkVregs},
		api.KStore: {(*checked).checkVregs},
		api.KCall:  {(*checked).checkCall, (*checked).checkVregs, (*checked).checkPassed},
		api.KBr:    {(*checked).checkVregs, (*checked).checkTargets},
		api.KJump:  {(*checked).checkTargets},
		api.KRet:   {(*checked).checkVregs, (*checked).checkAnswer},
	}
}

// checkIns asks of an instruction what is asked of its kind.
func (c *checked) checkIns(x api.Ins, last bool) api.Errno {
	if x.Kind < api.KConst || x.Kind > api.KRet || ins.IsEnd(x) != last {
		return api.ErrIns
	}
	for _, check := range c.rules[x.Kind] {
		if err := check(c, x); err != api.OK {
			return err
		}
	}
	return api.OK
}

// checkOp: an operation must be one of the machine's.
func (c *checked) checkOp(x api.Ins) api.Errno {
	op, ok := c.t.Op(x.Name)
	if !ok || len(x.Args) != len(c.ops[op].Uses) {
		return api.ErrIns
	}
	return api.OK
}

// checkCall: whoever is called must have a name, and registers for its arguments.
func (c *checked) checkCall(x api.Ins) api.Errno {
	if !names.Is(x.Name) || len(x.Args) > len(c.args) {
		return api.ErrIns
	}
	return api.OK
}

// checkVregs: what is written and read must be virtual registers.
func (c *checked) checkVregs(x api.Ins) api.Errno {
	for _, l := range []iter.Seq[int]{ins.Writes(x), ins.Reads(x)} {
		for v := range l {
			if !c.isVreg(v) {
				return api.ErrVreg
			}
		}
	}
	return api.OK
}

// checkPassed: what a call is given and what it answers must be where the convention has it.
func (c *checked) checkPassed(x api.Ins) api.Errno {
	if !c.canPass(x.Args) {
		return api.ErrReg
	}
	for d := range ins.Writes(x) {
		if !c.t.In(c.classes[d], c.t.Result()) {
			return api.ErrReg
		}
	}
	return api.OK
}

// checkCopy: a copy must stay within a class.
func (c *checked) checkCopy(x api.Ins) api.Errno {
	if c.classes[x.D] != c.classes[x.A] {
		return api.ErrReg
	}
	return api.OK
}

// checkOperands: what an operation writes and reads must be of the classes of its operands.
func (c *checked) checkOperands(x api.Ins) api.Errno {
	op, _ := c.t.Op(x.Name)
	def, uses := c.ops[op].Def, c.ops[op].Uses
	if c.f.Vregs[x.D] != def.Class {
		return api.ErrReg
	}
	for i, v := range x.Args {
		if c.f.Vregs[v] != uses[i].Class {
			return api.ErrReg
		}
	}
	return api.OK
}

// checkAnswer: what a ret answers must be of the result's class.
func (c *checked) checkAnswer(x api.Ins) api.Errno {
	if c.f.Vregs[x.A] != c.f.Result {
		return api.ErrReg
	}
	return api.OK
}

// checkTargets: where x goes must be blocks, and none may go to the first one.
func (c *checked) checkTargets(x api.Ins) api.Errno {
	for b := range ins.Targets(x) {
		if !c.isTarget(b) {
			return api.ErrBlock
		}
	}
	return api.OK
}
