package machrun_test

import (
	"math"
	"slices"

	"pigeonhole/api"
	"pigeonhole/virrun"
)

// A model of the chapter: a register is a list of single bits, a description's own words are asked, and a run is one
// answer that hangs on how many steps it has.

func many[T any](n int, x T) []T { return slices.Repeat([]T{x}, n) }

// at is the one of l of that number, 0 where there is none.
func at(l []int, n int) int {
	if n < len(l) {
		return l[n]
	}
	return 0
}

// spot is a bit of an outer register.
type spot struct{ root, bit int }

// model is a machine: its registers in their order, of each its bits, the lowest one first; the bits that a call
// destroys.
type model struct {
	m     api.Machine
	names []string
	spots [][]spot
	lost  []spot
}

func modelOf(m api.Machine) *model {
	o := &model{m: m}
	for i, r := range m.Regs {
		o.add(r, i, 0)
	}
	for _, r := range m.Regs {
		for _, p := range o.of(r.Name) {
			if !slices.ContainsFunc(m.Saved, func(name string) bool { return slices.Contains(o.of(name), p) }) {
				o.lost = append(o.lost, p)
			}
		}
	}
	return o
}

func (o *model) add(r api.Reg, root, from int) {
	var own []spot
	for k := range r.Width {
		own = append(own, spot{root, from + r.At + k})
	}
	o.names, o.spots = append(o.names, r.Name), append(o.spots, own)
	for _, s := range r.Subs {
		o.add(s, root, from+r.At)
	}
}

// of is the bits of the register of that name.
func (o *model) of(name string) []spot { return o.spots[o.reg(name)] }

func (o *model) reg(name string) int { return slices.Index(o.names, name) }

func (o *model) op(name string) api.Op {
	return o.m.Ops[slices.IndexFunc(o.m.Ops, func(op api.Op) bool { return op.Name == name })]
}

// state is which bits of each outer register are 1.
type state [][64]bool

// value is the number that those bits are.
func (s state) value(l []spot) int {
	v := uint64(0)
	for i, p := range l {
		if s[p.root][p.bit] {
			v |= 1 << i
		}
	}
	return int(v)
}

func (s state) set(l []spot, v int) {
	for i, p := range l {
		s[p.root][p.bit] = uint64(v)>>i&1 == 1
	}
}

// spoil makes those bits junk.
func (s state) spoil(l []spot, junk int) {
	for _, p := range l {
		s[p.root][p.bit] = uint64(junk)>>p.bit&1 == 1
	}
}

// start is the bits at the beginning.
func (o *model) start(w api.World) state {
	s := make(state, len(o.m.Regs))
	for i, r := range o.m.Regs {
		s.set(o.of(r.Name), at(w.Init, i))
	}
	for i, name := range o.m.Args {
		if i < len(w.Args) {
			s.set(o.of(name), w.Args[i])
		}
	}
	return s
}

// run is what Run should answer of code that is taken, in a world that has fuel.
func (o *model) run(c api.Code, w api.World) (t api.Trace) {
	s, slots := o.start(w), map[int]int{}
	cells := slices.Clone(w.Mem)
	defer func() {
		for _, r := range o.m.Regs {
			t.Regs = append(t.Regs, s.value(o.of(r.Name)))
		}
	}()
	b, i, answered := 0, 0, 0
	for range w.Fuel {
		x := c.Blocks[b][i]
		i++
		get := func(r int) int { return s.value(o.spots[r]) }
		switch x.Kind {
		case 1:
			s.set(o.spots[x.D], x.N)
		case 2:
			s.set(o.spots[x.D], get(x.A))
		case 3:
			var args []int
			for _, r := range x.Args {
				args = append(args, get(r))
			}
			v, ok := virrun.Do(x.Name, len(o.spots[x.D]), args)
			if !ok {
				t.End = 1
				return t
			}
			for _, name := range o.op(x.Name).Clob {
				s.spoil(o.of(name), w.Junk)
			}
			s.set(o.spots[x.D], v)
		case 4:
			found := 0
			for _, c := range cells {
				if c.Addr == get(x.A) {
					found = c.Value
				}
			}
			s.set(o.spots[x.D], found)
		case 5:
			t.Events = append(t.Events, api.Event{Kind: 1, Args: []int{get(x.A), get(x.B)}})
			cells = append(cells, api.Cell{Addr: get(x.A), Value: get(x.B)})
		case 6:
			e := api.Event{Kind: 2, Name: x.Name}
			for _, name := range o.m.Args[:x.N] {
				e.Args = append(e.Args, s.value(o.of(name)))
			}
			t.Events = append(t.Events, e)
			s.spoil(o.lost, w.Junk)
			if x.D == 0 {
				s.set(o.of(o.m.Result), at(w.Oracle, answered))
				answered++
			}
		case 7:
			b, i = x.T, 0
			if get(x.A) == 0 {
				b = x.F
			}
		case 8:
			b, i = x.T, 0
		case 9:
			t.Result = s.value(o.of(o.m.Result))
			return t
		case 10:
			slots[x.N] = get(x.A)
		case 11:
			s.set(o.spots[x.D], slots[x.N])
		}
	}
	t.End = 3
	return t
}

// steps is a row of numbers that is the same on every run.
type steps uint64

func (s *steps) next(below int) int {
	*s = *s*6364136223846793005 + 1442695040888963407
	return int(uint64(*s)>>33) % below
}

func one[T any](s *steps, l []T) T { return l[s.next(len(l))] }

// value is any int, often one at an edge.
func (s *steps) value() int {
	switch s.next(6) {
	case 0:
		return one(s, []int{0, 1, -1, 2, math.MaxInt, math.MinInt, 255, 256, 1 << 31, 1 << 32, 1<<32 - 1})
	case 1:
		return 1<<s.next(64) - s.next(3)
	case 2, 3:
		return s.next(12) - 3
	}
	return int(uint64(s.next(1<<31))<<33 ^ uint64(s.next(1<<31))<<8 ^ uint64(s.next(256)))
}

// some is so many values.
func (s *steps) some(n int) []int {
	var l []int
	for range n {
		l = append(l, s.value())
	}
	return l
}

// generator makes code that is taken, and worlds.
type generator struct {
	*steps
	*model
}

func (g generator) any() int { return g.next(len(g.names)) }

// code is some that is taken. What a kind does not name may be anything.
func (g generator) code() api.Code {
	c := api.Code{Name: "f", Slots: g.next(min(g.m.Slots, 4) + 1)}
	blocks := 1 + g.next(6)
	for range blocks {
		var l []api.Ins
		for range g.next(9) {
			if x := g.body(c.Slots); x.Kind > 0 {
				l = append(l, x)
			}
		}
		end := g.blank([]int{7, 7, 7, 8, 9}[g.next(5)])
		end.A, end.T, end.F = g.any(), g.next(blocks), g.next(blocks)
		c.Blocks = append(c.Blocks, append(l, end))
	}
	return c
}

// blank is an instruction of that kind of which each part is anything.
func (g generator) blank(kind int) api.Ins {
	return api.Ins{Kind: kind, D: g.value(), A: g.value(), B: g.value(), N: g.value(), T: g.value(), F: g.value(), Name: "what", Args: g.some(g.next(4))}
}

// body is an instruction that ends no block; the zero one, where a slot is wanted and there is none.
func (g generator) body(slots int) api.Ins {
	x := g.blank(one(g.steps, []int{1, 1, 2, 2, 3, 3, 3, 3, 4, 5, 6, 10, 11}))
	switch x.Kind {
	case 1:
		x.D = g.any()
	case 2:
		for x.D, x.A = g.any(), g.any(); len(g.spots[x.D]) != len(g.spots[x.A]); x.A = g.any() {
		}
	case 3:
		return g.operation(x)
	case 4:
		x.D, x.A = g.any(), g.any()
	case 5:
		x.A, x.B = g.any(), g.any()
	case 6:
		x.D, x.Name, x.N = -g.next(2), one(g.steps, []string{"h", "add", "ret", "_9"}), g.next(len(g.m.Args)+1)
	case 10, 11:
		if slots == 0 {
			return api.Ins{}
		}
		x.D, x.A, x.N = g.any(), g.any(), g.next(slots)
	}
	return x
}

// operation is x as an operation whose registers may be so.
func (g generator) operation(x api.Ins) api.Ins {
	op := one(g.steps, g.m.Ops)
	for {
		x.Name, x.D, x.Args = op.Name, g.pick(op.Def), nil
		for i, u := range op.Uses {
			x.Args = append(x.Args, g.pick(u))
			if i == op.Tie {
				x.Args[i] = x.D
			}
		}
		if !slices.ContainsFunc(op.Clob, func(name string) bool { return g.lap(x.D, g.reg(name)) }) {
			return x
		}
	}
}

func (g generator) pick(o api.Oper) int {
	if o.Fix != "" {
		return g.reg(o.Fix)
	}
	k := slices.IndexFunc(g.m.Classes, func(k api.Class) bool { return k.Name == o.Class })
	return g.reg(one(g.steps, g.m.Classes[k].Regs))
}

func (o *model) lap(a, b int) bool {
	return slices.ContainsFunc(o.spots[a], func(p spot) bool { return slices.Contains(o.spots[b], p) })
}

// world is a world whose memory has cells at addresses that are often asked for.
func (g generator) world() api.World {
	w := api.World{Args: g.some(g.next(len(g.m.Args) + 3)), Oracle: g.some(g.next(5)), Fuel: g.next(120), Init: g.some(g.next(len(g.m.Regs) + 3)), Junk: g.value()}
	for range g.next(9) {
		w.Mem = append(w.Mem, api.Cell{Addr: g.value(), Value: g.value()})
	}
	return w
}
