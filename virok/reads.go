package virok

import (
	"slices"

	"pigeonhole/api"
	"pigeonhole/bitset"
	"pigeonhole/ins"
)

// checkReads is point 4: what is read must have been written, whatever way was come.
func (c *checked) checkReads() (int, int, api.Errno) {
	for b, unwritten := range c.unwritten() {
		if i, ok := unwrittenRead(c.f.Blocks[b], unwritten); ok {
			return b, i, api.ErrVreg
		}
	}
	return 0, 0, api.OK
}

// unwrittenRead is the first instruction that reads what is not written; false: there is none.
func unwrittenRead(block []api.Ins, unwritten bitset.Set) (int, bool) {
	for i, x := range block {
		for v := range ins.Reads(x) {
			if unwritten.Has(v) {
				return i, true
			}
		}
		for d := range ins.Writes(x) {
			unwritten = unwritten.Without(d)
		}
	}
	return 0, false
}

// unwritten is of each block the registers that some way from the beginning to there does not write. There are none of
// a block that is not reached. Ways are gone until no block has more of them.
func (c *checked) unwritten() []bitset.Set {
	sets, written := make([]bitset.Set, len(c.f.Blocks)), c.written()
	sets[0] = c.noParams()
	wait := []int{0}
	for len(wait) > 0 {
		b := wait[len(wait)-1]
		wait = wait[:len(wait)-1]
		end := sets[b].Sub(written[b])
		for s := range ins.Targets(lastOf(c.f.Blocks[b])) {
			if more := sets[s].Or(end); !more.Equal(sets[s]) {
				sets[s] = more
				wait = append(wait, s)
			}
		}
	}
	return sets
}

// lastOf is the instruction that ends a block.
func lastOf(block []api.Ins) api.Ins { return block[len(block)-1] }

// noParams is the virtual registers that are no Params.
func (c *checked) noParams() bitset.Set {
	var all []int
	for v := range c.classes {
		all = append(all, v)
	}
	return bitset.Of(all).Sub(bitset.Of(c.f.Params))
}

// written is what each block writes.
func (c *checked) written() []bitset.Set {
	var sets []bitset.Set
	for _, block := range c.f.Blocks {
		var l []int
		for _, x := range block {
			l = slices.AppendSeq(l, ins.Writes(x))
		}
		sets = append(sets, bitset.Of(l))
	}
	return sets
}
