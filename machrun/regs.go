package machrun

import (
	"pigeonhole/api"
	"pigeonhole/table"
)

// regs is the registers of a machine, told by their outer ones, in which all lie.
type regs struct {
	t     *table.Table
	outer []outer
	junk  uint64 // what stands in what is destroyed
}

// outer is an outer register: the bits that it has, those of them that a call destroys, and what they are now.
type outer struct{ own, lost, now uint64 }

// newRegs is registers of which the outer ones have those values at first, 0 behind these.
func newRegs(t *table.Table, values []int, junk int) regs {
	// A table of nothing tells a Result that is no register: it is read, and written, in an outer one without bits.
	r := regs{t: t, outer: make([]outer, max(t.Roots(), 1)), junk: uint64(junk)}
	for n := range t.Regs() {
		p := t.Place(n)
		r.outer[p.Root].own |= bits(p)
	}
	for i := range r.outer {
		r.outer[i].lost = r.outer[i].own
	}
	for _, n := range t.Saved() {
		p := t.Place(n)
		r.outer[p.Root].lost &^= bits(p)
	}
	for i, v := range values[:min(len(values), len(r.outer))] {
		r.outer[i].turn(r.outer[i].own, uint64(v))
	}
	return r
}

// bits is the bits of an outer register that lie at p.
func bits(p api.Place) uint64 { return ^uint64(0) >> (64 - p.Width) << p.At }

// turn makes those bits of o what stands at the same places of v.
func (o *outer) turn(bits, v uint64) { o.now = o.now&^bits | v&bits }

// read is the value of register n.
func (r regs) read(n int) int {
	p := r.t.Place(n)
	return int((r.outer[p.Root].now & bits(p)) >> p.At)
}

// values is the values of the registers l, in new memory.
func (r regs) values(l []int) []int {
	values := make([]int, len(l))
	for i, n := range l {
		values[i] = r.read(n)
	}
	return values
}

// write gives register n the lowest bits of v, as many as it has.
func (r regs) write(n, v int) {
	p := r.t.Place(n)
	r.outer[p.Root].turn(bits(p), uint64(v)<<p.At)
}

// spoil makes the bits of the registers l junk.
func (r regs) spoil(l []int) {
	for _, n := range l {
		p := r.t.Place(n)
		r.outer[p.Root].turn(bits(p), r.junk)
	}
}

// spoilLost makes the bits junk that a call destroys.
func (r regs) spoilLost() {
	for i := range r.outer {
		r.outer[i].turn(r.outer[i].lost, r.junk)
	}
}

// told is what the outer registers have, in new memory.
func (r regs) told() []int {
	values := make([]int, r.t.Roots())
	for i := range values {
		values[i] = int(r.outer[i].now)
	}
	return values
}
