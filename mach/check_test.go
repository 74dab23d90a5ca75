package mach_test

import (
	"fmt"
	"math"
	"slices"
	"strings"
	"testing"

	"pigeonhole/api"
	"pigeonhole/table"
)

func TestP1201Ordinary(t *testing.T) {
	is(t, tableOf(t, machineText), "small", smallCode(), fine)
	for _, x := range tables(t) {
		is(t, x, "ret", api.Code{Name: "f", Blocks: [][]api.Ins{{{Kind: api.KRet}}}}, fine)
	}
}

func TestP1201NoTable(t *testing.T) {
	for _, c := range []api.Code{smallCode(), {}, {Name: "f", Slots: -1}, {Blocks: many(201, []api.Ins{})}} {
		is(t, nil, "nil", c, answer{0, 0, api.ErrArg})
	}
	// The table of nothing has no register, no slot.
	var none table.Table
	is(t, &none, "none", smallCode(), answer{0, 0, api.ErrSlot})
	c := smallCode()
	c.Slots = 0
	is(t, &none, "none", c, answer{0, 0, api.ErrReg})
}

// fault is something that is wrong of small, and what is told of it.
type fault struct {
	what string
	turn func(c *api.Code)
	want answer
}

// ins is the instruction of block b.
func ins(c *api.Code, b, i int) *api.Ins { return &c.Blocks[b][i] }

// faults is what can be wrong, in the order in which it is looked for. Each can stand beside those behind it.
func faults() []fault {
	return []fault{
		{"201 blocks", func(c *api.Code) { c.Blocks = append(c.Blocks, many(201, []api.Ins{{Kind: api.KRet}})...) }, answer{0, 0, api.ErrLong}},
		{"no name", func(c *api.Code) { c.Name = "" }, answer{0, 0, api.ErrName}},
		{"10 slots", func(c *api.Code) { c.Slots = 10 }, answer{0, 0, api.ErrSlot}},
		{"no block", func(c *api.Code) { c.Blocks = nil }, answer{0, 0, api.ErrBlock}},
		{"no instruction", func(c *api.Code) { c.Blocks[0] = nil }, answer{0, 0, api.ErrBlock}},
		{"25601 instructions", func(c *api.Code) { c.Blocks[0] = append(many(25593, c.Blocks[0][0]), c.Blocks[0]...) }, answer{0, 0, api.ErrBlock}},
		{"a kind that is none", func(c *api.Code) { ins(c, 0, 0).Kind = 12 }, answer{0, 0, api.ErrIns}},
		{"a const's register", func(c *api.Code) { ins(c, 0, 1).D = 9 }, answer{0, 1, api.ErrReg}},
		{"an operation that is none", func(c *api.Code) { ins(c, 0, 4).Name = "mul" }, answer{0, 4, api.ErrIns}},
		{"an operand", func(c *api.Code) { ins(c, 0, 5).Args[1] = 3 }, answer{0, 5, api.ErrReg}},
		{"a tie", func(c *api.Code) { ins(c, 0, 5).Args[1] = 5 }, answer{0, 5, api.ErrReg}},
		{"what is destroyed", func(c *api.Code) { ins(c, 0, 6).D = 2 }, answer{0, 6, api.ErrReg}},
		{"a block that is none", func(c *api.Code) { ins(c, 0, 7).F = 3 }, answer{0, 7, api.ErrBlock}},
		{"no instruction of block 1", func(c *api.Code) { c.Blocks[1] = nil }, answer{1, 0, api.ErrBlock}},
		{"a slot that is none", func(c *api.Code) { ins(c, 1, 2).N = 3 }, answer{1, 2, api.ErrSlot}},
		{"a ret in between", func(c *api.Code) { ins(c, 1, 3).Kind = api.KRet }, answer{1, 3, api.ErrIns}},
		{"another slot that is none", func(c *api.Code) { ins(c, 1, 4).N = -1 }, answer{1, 4, api.ErrSlot}},
		{"a call of four", func(c *api.Code) { ins(c, 2, 0).N = 4 }, answer{2, 0, api.ErrIns}},
		{"a call's D", func(c *api.Code) { ins(c, 2, 1).D = 5 }, answer{2, 1, api.ErrIns}},
		{"unlike widths", func(c *api.Code) { *ins(c, 2, 2) = api.Ins{Kind: api.KCopy, D: 0, A: 7} }, answer{2, 2, api.ErrReg}},
		{"no end", func(c *api.Code) { ins(c, 2, 6).Kind = api.KLoad }, answer{2, 6, api.ErrIns}},
	}
}

func TestP1201EachFault(t *testing.T) {
	x := tableOf(t, machineText)
	for _, y := range faults() {
		c := smallCode()
		y.turn(&c)
		is(t, x, y.what, c, y.want)
	}
}

// TestP1201Order: of two faults the first is told.
func TestP1201Order(t *testing.T) {
	x := tableOf(t, machineText)
	l := faults()
	asked := 0
	for i, first := range l {
		for _, second := range l[i+1:] {
			c := smallCode()
			if !both(&c, first, second) {
				continue
			}
			asked++
			is(t, x, first.what+", "+second.what, c, first.want)
		}
	}
	if asked < 170 {
		t.Errorf("%d pairs: too few", asked)
	}
}

// both turns c twice, the later fault first, and tells whether the two can stand beside one another.
func both(c *api.Code, first, second fault) (ok bool) {
	defer func() {
		if recover() != nil { // what the one would turn the other has taken away
			ok = false
		}
	}()
	second.turn(c)
	first.turn(c)
	return true
}

func TestP1201Names(t *testing.T) {
	x := tableOf(t, machineText)
	for _, s := range []string{"f", "_", "F9", "machine", "g", "a", "add", "const", "code", strings.Repeat("n", 20)} {
		c := smallCode()
		c.Name, ins(&c, 2, 0).Name, ins(&c, 2, 1).Name = s, s, s
		is(t, x, s, c, fine)
	}
	for _, s := range []string{"", " ", "9", "9f", "f ", " f", "f g", "f\n", "f.g", "é", "f\x00", "#f", "=", strings.Repeat("n", 21), strings.Repeat("n", 70000)} {
		c := smallCode()
		c.Name = s
		is(t, x, "code "+short(s), c, answer{0, 0, api.ErrName})
		for i := range 2 {
			c = smallCode()
			ins(&c, 2, i).Name = s
			is(t, x, "call "+short(s), c, answer{2, i, api.ErrIns})
		}
	}
}

func TestP1201HowMany(t *testing.T) {
	x := tableOf(t, machineText)
	for n, want := range map[int]answer{4: fine, 199: fine, 200: fine, 201: {0, 0, api.ErrLong}, 9000: {0, 0, api.ErrLong}} {
		c := smallCode()
		c.Blocks = append(c.Blocks, many(n-3, []api.Ins{{Kind: api.KJump, T: n - 1}})...)
		is(t, x, fmt.Sprint(n, " blocks"), c, want)
	}
	for n, want := range map[int]answer{0: {1, 0, api.ErrBlock}, 1: fine, 400: fine, 401: fine, 25599: fine, 25600: fine, 25601: {1, 0, api.ErrBlock}, 90000: {1, 0, api.ErrBlock}} {
		c := smallCode()
		c.Blocks[1] = nil
		if n > 0 {
			c.Blocks[1] = append(many(n-1, api.Ins{Kind: api.KConst}), api.Ins{Kind: api.KJump, T: 2})
		}
		is(t, x, fmt.Sprint(n, " instructions"), c, want)
	}
}

// TestP1201Slots: how many slots there may be, by the table; which there are, by the code.
func TestP1201Slots(t *testing.T) {
	x, y := tableOf(t, machineText), tableOf(t, oddText)
	for n := range 1002 {
		c := api.Code{Name: "f", Slots: n, Blocks: [][]api.Ins{{{Kind: api.KRet}}}}
		wants := map[bool]answer{true: fine, false: {0, 0, api.ErrSlot}}
		is(t, x, fmt.Sprint(n, " slots"), c, wants[n <= 9])
		is(t, y, fmt.Sprint(n, " slots"), c, wants[n <= 1000])
	}
	for _, n := range odd(10) {
		c := smallCode()
		c.Slots = n
		is(t, x, fmt.Sprint(n, " slots"), c, answer{0, 0, api.ErrSlot})
	}
	for slots := range 10 {
		for _, n := range append(odd(slots), 0, 1, 8, 9) {
			for _, kind := range []int{api.KSpill, api.KReload} {
				c := codeOf(api.Ins{Kind: kind, N: n})
				c.Slots = slots
				want := fine
				if n < 0 || n >= slots {
					want.err = api.ErrSlot
				}
				is(t, x, fmt.Sprint("kind ", kind, ", slot ", n, " of ", slots), c, want)
			}
		}
	}
}

// each is an instruction of each kind that may stand in small, by its kind.
func each() []api.Ins {
	return []api.Ins{
		api.KConst:  {Kind: api.KConst, D: 5, N: 3},
		api.KCopy:   {Kind: api.KCopy, D: 2, A: 4},
		api.KOp:     {Kind: api.KOp, D: 6, Name: "sub", Args: []int{0, 6}},
		api.KLoad:   {Kind: api.KLoad, D: 3, A: 4},
		api.KStore:  {Kind: api.KStore, A: 4, B: 2},
		api.KCall:   {Kind: api.KCall, D: 0, Name: "h", N: 2},
		api.KBr:     {Kind: api.KBr, A: 8, T: 1, F: 0},
		api.KJump:   {Kind: api.KJump, T: 2},
		api.KRet:    {Kind: api.KRet},
		api.KSpill:  {Kind: api.KSpill, A: 8, N: 2},
		api.KReload: {Kind: api.KReload, D: 8, N: 2},
	}
}

func isEnd(kind int) bool { return kind == api.KBr || kind == api.KJump || kind == api.KRet }

// with is small with an instruction put in at the beginning of block 0, or at its end.
func with(x api.Ins) (api.Code, int) {
	c := smallCode()
	if !isEnd(x.Kind) {
		c.Blocks[0] = append([]api.Ins{x}, c.Blocks[0]...)
		return c, 0
	}
	c.Blocks[0][7] = x
	return c, 7
}

func TestP1201Kinds(t *testing.T) {
	x := tableOf(t, machineText)
	for _, kind := range append(odd(12), 0, 12, 13, 256+1, 1<<32+9) {
		for b, l := range smallCode().Blocks {
			for i := range l {
				c := smallCode()
				ins(&c, b, i).Kind = kind
				is(t, x, fmt.Sprint("kind ", kind), c, answer{b, i, api.ErrIns})
			}
		}
	}
}

func TestP1201Ends(t *testing.T) {
	x := tableOf(t, machineText)
	for kind, y := range each()[1:] {
		kind++
		c, i := with(y)
		is(t, x, fmt.Sprint("kind ", kind), c, fine)
		if !isEnd(kind) {
			c.Blocks[0][len(c.Blocks[0])-1] = y
			is(t, x, fmt.Sprint("kind ", kind, " last"), c, answer{0, len(c.Blocks[0]) - 1, api.ErrIns})
			c.Blocks[0] = []api.Ins{y}
			is(t, x, fmt.Sprint("kind ", kind, " alone"), c, answer{0, 0, api.ErrIns})
			continue
		}
		c.Blocks[0][2] = y
		is(t, x, fmt.Sprint("kind ", kind, " not last"), c, answer{0, 2, api.ErrIns})
		c, _ = with(y)
		c.Blocks[0] = append(c.Blocks[0], y)
		is(t, x, fmt.Sprint("kind ", kind, " twice"), c, answer{0, i, api.ErrIns})
		c.Blocks[0] = []api.Ins{y}
		is(t, x, fmt.Sprint("kind ", kind, " alone"), c, fine)
	}
}

func TestP1201Operations(t *testing.T) {
	x := tableOf(t, machineText)
	for _, s := range []string{"", "mul", "Add", "add ", "nop", "copy", "move", "g", "a", strings.Repeat("add", 30000)} {
		c, i := with(api.Ins{Kind: api.KOp, D: 0, Name: s, Args: []int{0, 0}})
		is(t, x, "operation "+short(s), c, answer{0, i, api.ErrIns})
	}
	for name, n := range map[string]int{"add": 2, "sub": 2, "not": 1, "lt": 2, "div": 2, "rem": 2, "eq": 2} {
		for _, k := range []int{0, 1, 2, 3, 17, 100000} {
			c, i := with(api.Ins{Kind: api.KOp, D: -1, Name: name, Args: make([]int, k)})
			want := answer{0, i, api.ErrIns}
			if k == n {
				want.err = api.ErrReg
			}
			is(t, x, fmt.Sprint(name, " of ", k), c, want)
		}
	}
}

// TestP1201Operands: each operation of all registers.
func TestP1201Operands(t *testing.T) {
	// What may be, by the names of the D and the Args.
	may := map[string]func(d, a, b string) bool{
		"add": func(d, a, b string) bool { return in("a b c d", d, a, b) && d == a },
		"sub": func(d, a, b string) bool { return in("c d", d, b) && in("a b c d", a) && d == b },
		"not": func(d, a, b string) bool { return d == "al" && in("al ah", a) },
		"lt":  func(d, a, b string) bool { return in("c d", d) && in("a b c d", a, b) },
		"div": func(d, a, b string) bool { return d == "a" && a == "a" && in("a b c d", b) },
		"rem": func(d, a, b string) bool { return d == "d" && a == "a" && b == "b" },
		"eq":  func(d, a, b string) bool { return in("w v", d, a, b) },
	}
	x := tableOf(t, machineText)
	for name, may := range may {
		op, _ := x.Op(name)
		n := len(x.Machine().Ops[op].Uses)
		taken := 0
		for d := range 9 {
			for a := range 9 {
				for b := range 9 {
					y := api.Ins{Kind: api.KOp, D: d, Name: name, Args: []int{a, b}[:n]}
					want := answer{0, 0, api.ErrReg}
					if may(x.Name(d), x.Name(a), x.Name(b)) {
						want = fine
						taken++
					}
					is(t, x, fmt.Sprint(name, " ", x.Name(d), " ", x.Name(a), " ", x.Name(b)), codeOf(y), want)
				}
			}
		}
		if taken == 0 {
			t.Errorf("%s: nothing is taken", name)
		}
	}
}

// in tells whether all of the names stand in a list.
func in(list string, names ...string) bool {
	for _, s := range names {
		if !slices.Contains(strings.Fields(list), s) {
			return false
		}
	}
	return true
}

func TestP1201Copies(t *testing.T) {
	x := tableOf(t, machineText)
	widths := []int{64, 8, 8, 64, 8, 64, 64, 32, 32}
	for d, dw := range widths {
		for a, aw := range widths {
			want := fine
			if dw != aw {
				want.err = api.ErrReg
			}
			is(t, x, fmt.Sprint(d, " = move ", a), codeOf(api.Ins{Kind: api.KCopy, D: d, A: a}), want)
			// All else may be of any width.
			is(t, x, fmt.Sprint(d, " = load ", a), codeOf(api.Ins{Kind: api.KLoad, D: d, A: a}), fine)
			is(t, x, fmt.Sprint("store ", d, " ", a), codeOf(api.Ins{Kind: api.KStore, A: d, B: a}), fine)
		}
		for _, n := range []int{0, 255, 256, -1, math.MaxInt, math.MinInt} {
			is(t, x, fmt.Sprint(d, " = const ", n), codeOf(api.Ins{Kind: api.KConst, D: d, N: n}), fine)
		}
	}
}

// TestP1201Registers: each of the registers of each kind, with numbers that are none.
func TestP1201Registers(t *testing.T) {
	x := tableOf(t, machineText)
	for kind, parts := range map[int]string{api.KConst: "D", api.KCopy: "DA", api.KOp: "Dab", api.KLoad: "DA", api.KStore: "AB", api.KBr: "A", api.KSpill: "A", api.KReload: "D"} {
		for _, part := range parts {
			for _, n := range odd(9) {
				y := each()[kind]
				y.Args = slices.Clone(y.Args)
				switch part {
				case 'D':
					y.D = n
				case 'A':
					y.A = n
				case 'B':
					y.B = n
				default:
					y.Args[part-'a'] = n
				}
				c, i := with(y)
				is(t, x, fmt.Sprint("kind ", kind, ", ", string(part), " ", n), c, answer{0, i, api.ErrReg})
			}
		}
	}
}

func TestP1201Calls(t *testing.T) {
	x := tableOf(t, machineText)
	for _, n := range append(odd(4), 0, 1, 2, 3) {
		for _, d := range append(odd(1), 0, -1, 3, 5, 8) {
			want := fine
			if n < 0 || n > 3 || d != 0 && d != -1 {
				want.err = api.ErrIns
			}
			c, _ := with(api.Ins{Kind: api.KCall, Name: "h", N: n, D: d})
			is(t, x, fmt.Sprint("call of ", n, ", D ", d), c, want)
		}
	}
}

func TestP1201Targets(t *testing.T) {
	x := tableOf(t, machineText)
	for _, n := range append(odd(3), 0, 1, 2) {
		want := fine
		if n < 0 || n > 2 {
			want = answer{0, 7, api.ErrBlock}
		}
		for _, y := range []api.Ins{{Kind: api.KJump, T: n}, {Kind: api.KBr, T: n, F: 2}, {Kind: api.KBr, T: 2, F: n}, {Kind: api.KBr, T: n, F: n}} {
			c, _ := with(y)
			is(t, x, fmt.Sprint(y), c, want)
		}
	}
}

// TestP1201OrderWithin: of an instruction the errors come in their order.
func TestP1201OrderWithin(t *testing.T) {
	x := tableOf(t, machineText)
	for _, y := range []struct {
		x   api.Ins
		err api.Errno
	}{
		{api.Ins{Kind: api.KOp, D: 9, Name: "mul", Args: []int{9, 9}}, api.ErrIns},
		{api.Ins{Kind: api.KOp, D: 9, Name: "add", Args: []int{9}}, api.ErrIns},
		{api.Ins{Kind: api.KOp, D: 9, Name: "add", Args: []int{0, 0}}, api.ErrReg},
		{api.Ins{Kind: api.KCall, D: 9, Name: "", N: 9}, api.ErrIns},
		{api.Ins{Kind: api.KSpill, A: 9, N: 9}, api.ErrReg},
		{api.Ins{Kind: api.KReload, D: -1, N: -1}, api.ErrReg},
		{api.Ins{Kind: api.KSpill, A: 0, N: 9}, api.ErrSlot},
		{api.Ins{Kind: api.KBr, A: 9, T: 9, F: 9}, api.ErrReg},
		{api.Ins{Kind: api.KBr, A: 0, T: 0, F: 9}, api.ErrBlock},
	} {
		c, i := with(y.x)
		is(t, x, fmt.Sprint(y.x), c, answer{0, i, y.err})
	}
	// An end that stands where it may not is told ahead of what is wrong of it.
	c := smallCode()
	c.Blocks[0][3] = api.Ins{Kind: api.KBr, A: 9, T: 9}
	is(t, x, "a branch", c, answer{0, 3, api.ErrIns})
	c = smallCode()
	c.Blocks[2][6] = api.Ins{Kind: api.KConst, D: 9}
	is(t, x, "a const", c, answer{2, 6, api.ErrIns})
	// A block's own fault stands ahead of those of its instructions, behind those of the blocks ahead.
	c = smallCode()
	c.Blocks[1] = many(25601, api.Ins{})
	is(t, x, "too long", c, answer{1, 0, api.ErrBlock})
	ins(&c, 0, 7).T = 3
	is(t, x, "a block ahead", c, answer{0, 7, api.ErrBlock})
}

func TestP1201AgainstModel(t *testing.T) {
	s := steps(10)
	told := map[api.Errno]int{}
	for _, x := range tables(t) {
		g := generator{&s, modelOf(x.Machine())}
		for i := range 4000 {
			c := g.code()
			for range []int{0, 1, 1, 1, 2, 3}[s.next(6)] {
				g.turn(&c)
			}
			want := g.check(c)
			is(t, x, fmt.Sprintf("code %d, %.500s", i, fmt.Sprintf("%+v", c)), c, want)
			if told[want.err]++; t.Failed() {
				return
			}
		}
	}
	for err, least := range map[api.Errno]int{api.OK: 4000, api.ErrLong: 100, api.ErrName: 100, api.ErrReg: 1000, api.ErrBlock: 1000, api.ErrIns: 2000, api.ErrSlot: 500} {
		if told[err] < least {
			t.Errorf("error %d: %d times, want %d", err, told[err], least)
		}
	}
}
