package virrun_test

import (
	"math"
	"math/big"
	"slices"

	"pigeonhole/api"
)

// A model of the chapter: values are numbers without bounds, a description's own words are asked, and a run is one
// answer that hangs on how many steps it has.

func many[T any](n int, x T) []T { return slices.Repeat([]T{x}, n) }

// modelCut is n's lowest bits, from 0 on.
func modelCut(n *big.Int, width int) *big.Int {
	width = min(max(width, 1), 64)
	return new(big.Int).Mod(n, new(big.Int).Lsh(big.NewInt(1), uint(width)))
}

// modelInt is the int that has the bits of n, which is from 0 on and has at most 64.
func modelInt(n *big.Int) int {
	if n.Bit(63) == 1 {
		n = new(big.Int).Sub(n, new(big.Int).Lsh(big.NewInt(1), 64))
	}
	return int(n.Int64())
}

// modelDo is what Do should answer.
func modelDo(name string, width int, args []int) done {
	of := []string{"add", "sub", "mul", "and", "or", "xor", "shl", "shr", "div", "rem", "lt", "eq", "not"}
	if !slices.Contains(of, name) || name == "not" && len(args) != 1 || name != "not" && len(args) != 2 {
		return done{}
	}
	a, b, v := modelCut(big.NewInt(int64(args[0])), width), big.NewInt(0), new(big.Int)
	if len(args) == 2 {
		b = modelCut(big.NewInt(int64(args[1])), width)
	}
	by := uint(new(big.Int).Mod(b, big.NewInt(64)).Int64())
	is := func(so bool) {
		if so {
			v.SetInt64(1)
		}
	}
	if (name == "div" || name == "rem") && b.Sign() == 0 {
		return done{}
	}
	switch name {
	case "add":
		v.Add(a, b)
	case "sub":
		v.Sub(a, b)
	case "mul":
		v.Mul(a, b)
	case "and":
		v.And(a, b)
	case "or":
		v.Or(a, b)
	case "xor":
		v.Xor(a, b)
	case "shl":
		v.Lsh(a, by)
	case "shr":
		v.Rsh(a, by)
	case "div":
		v.Quo(a, b)
	case "rem":
		v.Rem(a, b)
	case "lt":
		is(a.Cmp(b) < 0)
	case "eq":
		is(a.Cmp(b) == 0)
	case "not":
		v.Not(a)
	}
	return done{modelInt(modelCut(v, width)), true}
}

// widthOf is how many bits the registers of that class have.
func widthOf(m api.Machine, class string) int {
	var find func(l []api.Reg, name string) int
	find = func(l []api.Reg, name string) int {
		for _, r := range l {
			if r.Name == name {
				return r.Width
			}
			if n := find(r.Subs, name); n > 0 {
				return n
			}
		}
		return 0
	}
	for _, k := range m.Classes {
		if k.Name == class {
			return find(m.Regs, k.Regs[0])
		}
	}
	return 0
}

// modelRun is what Run should answer of a function that is taken, in a world that has fuel.
func modelRun(m api.Machine, f api.Func, w api.World) api.Trace {
	regs := map[int]int{}
	write := func(v, n int) {
		regs[v] = modelInt(modelCut(big.NewInt(int64(n)), widthOf(m, f.Vregs[v])))
	}
	for i, p := range f.Params {
		write(p, append(slices.Clone(w.Args), make([]int, 16)...)[i])
	}
	var stores []api.Cell
	stores = append(stores, w.Mem...)
	answered := 0
	var t api.Trace
	b, i := 0, 0
	for step := 0; ; step++ {
		if step == w.Fuel {
			t.End = 3
			return t
		}
		x := f.Blocks[b][i]
		i++
		var args []int
		for _, v := range x.Args {
			args = append(args, regs[v])
		}
		switch x.Kind {
		case 1:
			write(x.D, x.N)
		case 2:
			write(x.D, regs[x.A])
		case 3:
			op := slices.IndexFunc(m.Ops, func(o api.Op) bool { return o.Name == x.Name })
			v := modelDo(x.Name, widthOf(m, m.Ops[op].Uses[0].Class), args)
			if !v.ok {
				t.End = 1
				return t
			}
			write(x.D, v.value)
		case 4:
			found := 0
			for _, c := range stores {
				if c.Addr == regs[x.A] {
					found = c.Value
				}
			}
			write(x.D, found)
		case 5:
			t.Events = append(t.Events, api.Event{Kind: 1, Args: []int{regs[x.A], regs[x.B]}})
			stores = append(stores, api.Cell{Addr: regs[x.A], Value: regs[x.B]})
		case 6:
			t.Events = append(t.Events, api.Event{Kind: 2, Name: x.Name, Args: args})
			if x.D >= 0 {
				write(x.D, append(slices.Clone(w.Oracle), make([]int, answered+1)...)[answered])
				answered++
			}
		case 7:
			b, i = x.T, 0
			if regs[x.A] == 0 {
				b = x.F
			}
		case 8:
			b, i = x.T, 0
		case 9:
			t.Result = regs[x.A]
			return t
		}
	}
}

// steps is a row of numbers that is the same on every run.
type steps uint64

func (s *steps) next(below int) int {
	*s = *s*6364136223846793005 + 1442695040888963407
	return int(uint64(*s)>>33) % below
}

// value is any int, often one at an edge.
func (s *steps) value() int {
	switch s.next(6) {
	case 0:
		return []int{0, 1, -1, 2, math.MaxInt, math.MinInt, 255, 256, 1 << 31, 1 << 32, 1<<32 - 1}[s.next(11)]
	case 1:
		return 1<<s.next(64) - s.next(3)
	case 2, 3:
		return s.next(12) - 3
	}
	return int(uint64(s.next(1<<31))<<33 ^ uint64(s.next(1<<31))<<8 ^ uint64(s.next(256)))
}

// some is so many values.
func (s *steps) some(n int) []int {
	var l []int
	for range n {
		l = append(l, s.value())
	}
	return l
}

// generator makes functions that are taken, and worlds.
type generator struct {
	*steps
	m api.Machine
}

func (g generator) has(class, reg string) bool {
	k := slices.IndexFunc(g.m.Classes, func(k api.Class) bool { return k.Name == class })
	return slices.Contains(g.m.Classes[k].Regs, reg)
}

// of is a virtual register of f of a class that is right. Each class has three.
func (g generator) of(f api.Func, right func(class string) bool) int {
	for v := g.next(len(f.Vregs)); ; v = (v + 1) % len(f.Vregs) {
		if right(f.Vregs[v]) {
			return v
		}
	}
}

func is(class string) func(string) bool { return func(s string) bool { return s == class } }

func (g generator) isHome(class string) bool { return g.has(class, g.m.Result) }

func (g generator) args(f api.Func, n int) []int {
	var l []int
	for i := range n {
		l = append(l, g.of(f, func(class string) bool { return g.has(class, g.m.Args[i]) }))
	}
	return l
}

// function is a function that is taken: all that it reads is written in its first block.
func (g generator) function() api.Func {
	f := api.Func{Name: "f"}
	for range 3 {
		for _, k := range g.m.Classes {
			f.Vregs = append(f.Vregs, k.Name)
		}
	}
	f.Result = f.Vregs[g.of(f, g.isHome)]
	for _, p := range g.args(f, g.next(len(g.m.Args)+1)) {
		if slices.Contains(f.Params, p) {
			break
		}
		f.Params = append(f.Params, p)
	}
	blocks := 1 + g.next(6)
	for b := range blocks {
		var l []api.Ins
		if b == 0 {
			for v := range f.Vregs {
				if !slices.Contains(f.Params, v) {
					l = append(l, api.Ins{Kind: api.KConst, D: v, N: g.value()})
				}
			}
		}
		for range g.next(8) {
			l = append(l, g.ins(f))
		}
		f.Blocks = append(f.Blocks, append(l, g.end(f, blocks)))
	}
	return f
}

// ins is an instruction that ends no block. What its kind does not name may be anything.
func (g generator) ins(f api.Func) api.Ins {
	x := api.Ins{Kind: []int{1, 2, 3, 3, 3, 4, 5, 6}[g.next(8)], D: g.next(len(f.Vregs)), A: g.next(len(f.Vregs)), B: g.next(len(f.Vregs)), N: g.value(), T: g.value(), F: g.value(), Name: "what", Args: g.some(g.next(4))}
	switch x.Kind {
	case api.KCopy:
		x.A = g.of(f, is(f.Vregs[x.D]))
	case api.KOp:
		op := g.m.Ops[g.next(len(g.m.Ops))]
		x.Name, x.D, x.Args = op.Name, g.of(f, is(op.Def.Class)), nil
		for _, u := range op.Uses {
			x.Args = append(x.Args, g.of(f, is(u.Class)))
		}
	case api.KCall:
		x.Name, x.Args, x.D = []string{"h", "add", "const", "_9"}[g.next(4)], g.args(f, g.next(len(g.m.Args)+1)), -1
		if g.next(3) > 0 {
			x.D = g.of(f, g.isHome)
		}
	default:
		return g.small(x)
	}
	return x
}

// small is x, often with a number that makes what follows hang on it.
func (g generator) small(x api.Ins) api.Ins {
	if x.Kind == api.KConst && g.next(2) == 0 {
		x.N = g.next(3)
	}
	return x
}

// end is an instruction that ends a block.
func (g generator) end(f api.Func, blocks int) api.Ins {
	x := api.Ins{Kind: api.KBr, D: g.value(), A: g.next(len(f.Vregs)), B: g.value(), N: g.value(), Name: "what", Args: g.some(g.next(3))}
	x.T, x.F = 1+g.next(max(1, blocks-1)), 1+g.next(max(1, blocks-1))
	switch {
	case blocks == 1 || g.next(5) == 0:
		x.Kind, x.A = api.KRet, g.of(f, is(f.Result))
	case g.next(3) == 0:
		x.Kind = api.KJump
	}
	return x
}

// world is a world whose memory has cells at addresses that are often asked for.
func (g generator) world() api.World {
	w := api.World{Args: g.some(g.next(7)), Oracle: g.some(g.next(5)), Fuel: g.next(120), Init: g.some(3), Junk: g.value()}
	for range g.next(9) {
		w.Mem = append(w.Mem, api.Cell{Addr: g.value(), Value: g.value()})
	}
	return w
}
