package table

import (
	"strings"

	"pigeonhole/api"
	"pigeonhole/bitset"
	"pigeonhole/geom"
)

// takeRegs, and what follows, read a machine that mdcheck.Check took, each leaning on those ahead of it: no name that
// is looked up is missing.
func (t *Table) takeRegs() {
	names, places, _ := geom.Places(t.m.Regs)
	for r, p := range places {
		t.regs.add(names[r], reg{name: names[r], place: p})
	}
	for r, p := range places {
		t.regs.things[r].laps = t.those(func(q api.Place) bool { return geom.Lap(p, q) })
	}
}

func (t *Table) takeClasses() {
	for _, k := range t.m.Classes {
		l := t.numbers(k.Regs)
		t.classes.add(k.Name, class{list: l, set: bitset.Of(l), width: t.Place(l[0]).Width})
	}
}

func (t *Table) takeOps() {
	for _, o := range t.m.Ops {
		clob := t.numbers(o.Clob)
		may := []bitset.Set{t.choice(o.Def).Sub(t.lapping(clob))}
		for _, u := range o.Uses {
			may = append(may, t.choice(u))
		}
		t.ops.add(o.Name, op{may: may, tie: o.Tie, clob: clob})
	}
}

func (t *Table) takeConvention() {
	t.args, t.saved = t.numbers(t.m.Args), t.numbers(t.m.Saved)
	t.result, _ = t.Reg(t.m.Result)
	for _, s := range t.saved {
		within := t.those(func(p api.Place) bool { return geom.Within(p, t.Place(s)) })
		t.survivors = t.survivors.Or(within)
	}
}

// those is the registers of whose places is said that they are meant.
func (t *Table) those(meant func(api.Place) bool) bitset.Set {
	var l []int
	for r, x := range t.regs.things {
		if meant(x.place) {
			l = append(l, r)
		}
	}
	return bitset.Of(l)
}

// numbers is the numbers of the registers of those names.
func (t *Table) numbers(names []string) []int {
	l := make([]int, len(names))
	for i, s := range names {
		l[i], _ = t.Reg(s)
	}
	return l
}

// choice is the registers that an operand may be, whatever is destroyed.
func (t *Table) choice(o api.Oper) bitset.Set {
	k, _ := t.Class(o.Class)
	set := t.classes.at(k).set
	if o.Fix == "" {
		return set
	}
	return set.And(bitset.Of(t.numbers([]string{o.Fix})))
}

// lapping is the registers that lap with one of l.
func (t *Table) lapping(l []int) bitset.Set {
	var set bitset.Set
	for _, r := range l {
		set = set.Or(t.regs.at(r).laps)
	}
	return set
}

// copyOf is m in memory of its own. (Its texts are copies, too, so that they do not keep a longer one that they were
// cut from.)
func copyOf(m api.Machine) api.Machine {
	return api.Machine{
		Name: strings.Clone(m.Name), Regs: each(m.Regs, copyOfReg), Classes: each(m.Classes, copyOfClass), Ops: each(m.Ops, copyOfOp),
		Args: each(m.Args, strings.Clone), Result: strings.Clone(m.Result), Saved: each(m.Saved, strings.Clone), Slots: m.Slots,
	}
}

func copyOfReg(r api.Reg) api.Reg {
	r.Name, r.Subs = strings.Clone(r.Name), each(r.Subs, copyOfReg)
	return r
}

func copyOfClass(k api.Class) api.Class {
	return api.Class{Name: strings.Clone(k.Name), Regs: each(k.Regs, strings.Clone)}
}

func copyOfOp(o api.Op) api.Op {
	return api.Op{Name: strings.Clone(o.Name), Def: copyOfOper(o.Def), Uses: each(o.Uses, copyOfOper), Tie: o.Tie, Clob: each(o.Clob, strings.Clone)}
}

func copyOfOper(o api.Oper) api.Oper {
	return api.Oper{Class: strings.Clone(o.Class), Fix: strings.Clone(o.Fix)}
}

// each is what of answers of each of l.
func each[T any](l []T, of func(T) T) []T {
	var made []T
	for _, x := range l {
		made = append(made, of(x))
	}
	return made
}
