package virok_test

import (
	"math"
	"regexp"
	"slices"
	"strings"

	"pigeonhole/api"
)

// A model of the chapter: a description's own words are asked, and a way is looked for by each register alone.

var nameForm = regexp.MustCompile(`\A[A-Za-z_][A-Za-z_0-9]{0,19}\z`)

// registersOf is the names of the registers of that class; none, if there is no such class.
func registersOf(m api.Machine, class string) []string {
	for _, k := range m.Classes {
		if k.Name == class {
			return k.Regs
		}
	}
	return nil
}

func has(m api.Machine, class, reg string) bool { return slices.Contains(registersOf(m, class), reg) }

// modelCheck is what Check should answer.
func modelCheck(m api.Machine, f api.Func) answer {
	if err := modelHead(m, f); err != api.OK {
		return answer{0, 0, err}
	}
	for b, block := range f.Blocks {
		if n := len(block); n == 0 || n > 400 {
			return answer{b, 0, api.ErrBlock}
		}
		for i, x := range block {
			if err := modelIns(m, f, x, i+1 == len(block)); err != api.OK {
				return answer{b, i, err}
			}
		}
	}
	first := answer{len(f.Blocks), 0, api.OK}
	for v := range f.Vregs {
		if a, ok := modelUnwritten(f, v); ok && (a.block < first.block || a.block == first.block && a.ins < first.ins) {
			first = a
		}
	}
	if first.err == api.OK {
		return fine
	}
	return first
}

func modelHead(m api.Machine, f api.Func) api.Errno {
	if len(f.Vregs) > 500 || len(f.Blocks) > 200 {
		return api.ErrLong
	}
	if !nameForm.MatchString(f.Name) {
		return api.ErrName
	}
	for _, s := range f.Vregs {
		if registersOf(m, s) == nil {
			return api.ErrVreg
		}
	}
	if len(f.Params) > len(m.Args) {
		return api.ErrArg
	}
	seen := map[int]int{}
	for _, p := range f.Params {
		seen[p]++
		if p < 0 || p >= len(f.Vregs) || seen[p] > 1 {
			return api.ErrVreg
		}
	}
	for i, p := range f.Params {
		if !has(m, f.Vregs[p], m.Args[i]) {
			return api.ErrReg
		}
	}
	if registersOf(m, f.Result) == nil {
		return api.ErrVreg
	}
	if !has(m, f.Result, m.Result) {
		return api.ErrReg
	}
	if len(f.Blocks) == 0 {
		return api.ErrBlock
	}
	return api.OK
}

// parts is what of x is looked at: the register that is written (none of -1), those that are read, the blocks gone to.
func parts(x api.Ins) (d int, uses, blocks []int) {
	switch x.Kind {
	case 1:
		return x.D, nil, nil
	case 2, 4:
		return x.D, []int{x.A}, nil
	case 3, 6:
		return x.D, x.Args, nil
	case 5:
		return -1, []int{x.A, x.B}, nil
	case 7:
		return -1, []int{x.A}, []int{x.T, x.F}
	case 8:
		return -1, nil, []int{x.T}
	}
	return -1, []int{x.A}, nil
}

func modelIns(m api.Machine, f api.Func, x api.Ins, last bool) api.Errno {
	if x.Kind < 1 || x.Kind > 9 || (x.Kind >= 7) != last {
		return api.ErrIns
	}
	op := slices.IndexFunc(m.Ops, func(o api.Op) bool { return o.Name == x.Name })
	if x.Kind == 3 && (op < 0 || len(x.Args) != len(m.Ops[op].Uses)) {
		return api.ErrIns
	}
	if x.Kind == 6 && (!nameForm.MatchString(x.Name) || len(x.Args) > len(m.Args)) {
		return api.ErrIns
	}
	d, uses, blocks := parts(x)
	hasD := x.Kind == 1 || x.Kind == 2 || x.Kind == 3 || x.Kind == 4 || x.Kind == 6 && d != -1
	all := slices.Clone(uses)
	if hasD {
		all = append(all, d)
	}
	for _, v := range all {
		if v < 0 || v >= len(f.Vregs) {
			return api.ErrVreg
		}
	}
	class := func(v int) string { return f.Vregs[v] }
	ok := true
	switch x.Kind {
	case 2:
		ok = class(x.D) == class(x.A)
	case 3:
		ok = class(x.D) == m.Ops[op].Def.Class
		for i, v := range uses {
			ok = ok && class(v) == m.Ops[op].Uses[i].Class
		}
	case 6:
		ok = !hasD || has(m, class(d), m.Result)
		for i, v := range uses {
			ok = ok && has(m, class(v), m.Args[i])
		}
	case 9:
		ok = class(x.A) == f.Result
	}
	if !ok {
		return api.ErrReg
	}
	for _, b := range blocks {
		if b < 1 || b >= len(f.Blocks) {
			return api.ErrBlock
		}
	}
	return api.OK
}

// modelUnwritten goes all ways on which v is not written, and tells the first place at which v is read there.
func modelUnwritten(f api.Func, v int) (answer, bool) {
	if slices.Contains(f.Params, v) {
		return answer{}, false
	}
	var found []answer
	gone := map[int]int{}
	var from func(b int)
	from = func(b int) {
		gone[b]++
		if gone[b] > 1 {
			return
		}
		for i, x := range f.Blocks[b] {
			d, uses, blocks := parts(x)
			if slices.Contains(uses, v) {
				found = append(found, answer{b, i, api.ErrVreg})
			}
			if d == v {
				return
			}
			for _, s := range blocks {
				from(s)
			}
		}
	}
	from(0)
	if len(found) == 0 {
		return answer{}, false
	}
	return slices.MinFunc(found, func(x, y answer) int { return (x.block-y.block)*1000 + x.ins - y.ins }), true
}

// steps is a row of numbers that is the same on every run.
type steps uint64

func (s *steps) next(below int) int {
	*s = *s*6364136223846793005 + 1442695040888963407
	return int(uint64(*s)>>33) % below
}

// generator makes functions for a machine.
type generator struct {
	*steps
	m api.Machine
}

func one[T any](g generator, l []T) T { return l[g.next(len(l))] }

// of is a virtual register of f in a class that is right, there being one; else any.
func (g generator) of(f api.Func, right func(class string) bool) int {
	var l []int
	for v, class := range f.Vregs {
		if right(class) {
			l = append(l, v)
		}
	}
	if len(l) == 0 {
		return 0
	}
	return one(g, l)
}

func (g generator) any(f api.Func) int { return g.next(len(f.Vregs)) }

func (g generator) args(f api.Func, n int) []int {
	var l []int
	for i := range n {
		l = append(l, g.of(f, func(class string) bool { return has(g.m, class, g.m.Args[i]) }))
	}
	return l
}

// function is one that is often taken: some that it reads may not be written.
func (g generator) function() api.Func {
	f := api.Func{Name: "f"}
	for range 2 {
		for _, k := range g.m.Classes {
			f.Vregs = append(f.Vregs, k.Name)
		}
	}
	homes := slices.DeleteFunc(slices.Clone(f.Vregs), func(class string) bool { return !has(g.m, class, g.m.Result) })
	f.Result = one(g, homes)
	for _, p := range g.args(f, g.next(min(3, len(g.m.Args))+1)) {
		if !slices.Contains(f.Params, p) {
			f.Params = append(f.Params, p)
		} else {
			break
		}
	}
	blocks := 1 + g.next(5)
	for b := range blocks {
		var l []api.Ins
		if b == 0 && g.next(4) > 0 {
			for v := range f.Vregs {
				if g.next(12) > 0 {
					l = append(l, api.Ins{Kind: api.KConst, D: v, N: g.next(9)})
				}
			}
		}
		for range g.next(5) {
			l = append(l, g.ins(f))
		}
		f.Blocks = append(f.Blocks, append(l, g.end(f, blocks)))
	}
	return f
}

// ins is an instruction that ends no block.
func (g generator) ins(f api.Func) api.Ins {
	x := api.Ins{Kind: 1 + g.next(6), D: g.any(f)}
	is := func(class string) func(string) bool { return func(s string) bool { return s == class } }
	switch x.Kind {
	case api.KConst:
		x.N = g.next(100) - 50
	case api.KCopy:
		x.A = g.of(f, is(f.Vregs[x.D]))
	case api.KOp:
		op := one(g, g.m.Ops)
		x.Name, x.D = op.Name, g.of(f, is(op.Def.Class))
		for _, u := range op.Uses {
			x.Args = append(x.Args, g.of(f, is(u.Class)))
		}
	case api.KLoad:
		x.A = g.any(f)
	case api.KStore:
		x.D, x.A, x.B = 0, g.any(f), g.any(f)
	case api.KCall:
		x.Name, x.Args, x.D = "h", g.args(f, g.next(len(g.m.Args)+1)), -1
		if g.next(2) > 0 {
			x.D = g.of(f, func(class string) bool { return has(g.m, class, g.m.Result) })
		}
	}
	return x
}

// end is an instruction that ends a block.
func (g generator) end(f api.Func, blocks int) api.Ins {
	to := func() int { return 1 + g.next(max(1, blocks-1)) }
	switch {
	case blocks == 1 || g.next(4) == 0:
		return api.Ins{Kind: api.KRet, A: g.of(f, func(s string) bool { return s == f.Result })}
	case g.next(2) == 0:
		return api.Ins{Kind: api.KJump, T: to()}
	}
	return api.Ins{Kind: api.KBr, A: g.any(f), T: to(), F: to()}
}

func (g generator) oddNumber() int {
	return one(g, []int{-2, -1, 0, 1, 2, 3, 5, 9, 70, math.MaxInt, math.MinInt})
}

func (g generator) oddName() string {
	return one(g, []string{"", "f", "g", "w", "x", "zz", "rax", "const", "9", "a b", "add", "not", strings.Repeat("n", 20), strings.Repeat("n", 21)})
}

// turn changes a part of a function, which is its own.
func (g generator) turn(f *api.Func) {
	switch g.next(16) {
	case 0:
		f.Name = g.oddName()
	case 1:
		f.Result = g.oddName()
	case 2:
		f.Vregs[g.next(len(f.Vregs))] = one(g, []string{g.oddName(), one(g, f.Vregs), one(g, f.Vregs)})
	case 3:
		f.Params = append(f.Params, g.oddNumber())
	case 4:
		f.Vregs = append(f.Vregs, many(485+g.next(20), one(g, f.Vregs))...)
	case 5:
		f.Blocks = f.Blocks[min(1, len(f.Blocks)):]
	case 6:
		if len(f.Blocks) > 0 {
			f.Blocks[g.next(len(f.Blocks))] = many([]int{0, 400, 401}[g.next(3)], api.Ins{Kind: api.KConst})
		}
	case 7:
		f.Params = append(f.Params, many(5+g.next(6), 1)...)
	default:
		g.turnIns(f)
	}
}

// turnIns changes a part of an instruction.
func (g generator) turnIns(f *api.Func) {
	if len(f.Blocks) == 0 {
		return
	}
	b := one(g, f.Blocks)
	if len(b) == 0 {
		return
	}
	x := &b[g.next(len(b))]
	switch g.next(10) {
	case 8, 9:
		x.D, x.A = g.any(*f), g.any(*f)
	case 0:
		x.Kind = g.next(13) - 1
	case 1:
		x.D = g.oddNumber()
	case 2:
		x.A, x.B = g.oddNumber(), g.oddNumber()
	case 3:
		x.N = g.oddNumber()
	case 4:
		x.T, x.F = g.oddNumber(), g.oddNumber()
	case 5:
		x.Name = g.oddName()
	case 6:
		x.Args = make([]int, g.next(9))
	case 7:
		if len(x.Args) > 0 {
			x.Args[g.next(len(x.Args))] = g.oddNumber()
		}
	}
}
