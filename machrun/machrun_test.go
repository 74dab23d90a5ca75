package machrun_test

import (
	"fmt"
	"math"
	"reflect"
	"slices"
	"strings"
	"testing"

	"pigeonhole/api"
	"pigeonhole/mach"
	"pigeonhole/machrun"
	"pigeonhole/parser"
	"pigeonhole/shipped"
	"pigeonhole/table"
)

// smallText is a machine of registers within others: c, and the upper half of b, are saved.
const smallText = `
machine m {
  reg a 16 { reg al 8 at 0 reg ah 8 at 8 }
  reg b 16 { reg bl 8 at 0 reg bh 8 at 8 }
  reg c 16
  reg d 16 { reg dm 4 at 6 }
  class g = a b c d
  class h = al ah bl bh
  op add g = g g tie 0
  op sub h = h h
  op div g:a = g:a g tie 0 clob d
  op rem h:al = h h clob ah bl
  op not h = h
  op xor g = g g clob dm
  args a b
  result a
  saved c bh
  slots 20
}`

// oddText is a machine of all widths that are at an edge: what is returned, what comes in and what is saved lies within
// other registers.
const oddText = `
machine odd {
  reg a 64 { reg ax 32 at 0 { reg al 8 at 0 reg ah 8 at 8 } reg au 16 at 48 }
  reg b 64 { reg bl 8 at 0 reg bh 8 at 8 reg bz 1 at 63 }
  reg c 64
  reg d 16 { reg dl 8 at 0 reg dh 8 at 8 }
  reg e 16 { reg ee 16 at 0 }
  reg i 1
  reg j 7 { reg jm 3 at 2 }
  reg k 63 { reg kz 1 at 62 }
  class g = a b c
  class w = d e ee au
  class x = al ah bl bh dl dh
  class n = i bz kz
  op add g = g g tie 0
  op sub x = x x tie 1
  op mul w = w w clob a
  op div g:a = g:a g tie 0 clob b
  op rem x:ah = x x clob al
  op not x = x clob ax bz
  op and n = n n
  op or w = w w clob d i j
  op xor g = g g
  op shl g = g g
  op shr x = x x
  op lt x = x x clob jm
  op eq n = n n clob k
  args ah b d i
  result al
  saved bh e jm c
  slots 9
}`

// wideText is a machine of four registers of 64 bits, of which one is saved.
const wideText = `
machine w {
  reg p 64 reg q 64 reg r 64 reg s 64
  class g = p q r s
  op add g = g g
  op sub g = g g
  args p q
  result p
  saved s
  slots 5
}`

func tableOf(t testing.TB, text string) *table.Table {
	t.Helper()
	m, line, col, err := parser.Parse(text)
	if err != api.OK {
		t.Fatalf("the description: error %d at %d %d", err, line, col)
	}
	x, err := table.Make(m)
	if err != api.OK {
		t.Fatalf("the description: error %d", err)
	}
	return x
}

func shippedTable(t testing.TB, name string) *table.Table {
	t.Helper()
	s, err := shipped.Text(name)
	if err != api.OK {
		t.Fatal(err)
	}
	return tableOf(t, s)
}

// tables is all machines.
func tables(t testing.TB) []*table.Table {
	l := []*table.Table{tableOf(t, smallText), tableOf(t, oddText), tableOf(t, wideText)}
	for _, name := range shipped.Names() {
		l = append(l, shippedTable(t, name))
	}
	return l
}

// codeOf is code of three slots; its blocks are written with `;` between instructions.
func codeOf(t testing.TB, x *table.Table, blocks ...string) api.Code {
	t.Helper()
	text := "code f\nslots 3\n"
	for _, b := range blocks {
		text += "block\n  " + strings.ReplaceAll(b, ";", "\n  ") + "\n"
	}
	c, line, err := mach.Read(x, text+"end\n")
	if err != api.OK {
		t.Fatalf("the code: error %d at %d: %s", err, line, text)
	}
	return c
}

func run(t testing.TB, x *table.Table, c api.Code, w api.World) api.Trace {
	t.Helper()
	r, err := machrun.Run(x, c, w)
	if err != api.OK {
		t.Fatalf("error %d", err)
	}
	return r
}

// told is a run as a text: its events, its end, its registers.
func told(r api.Trace) string {
	var l []string
	for _, e := range r.Events {
		l = append(l, strings.TrimSpace(fmt.Sprint(e.Kind, e.Name, e.Args)))
	}
	return strings.Join(append(l, fmt.Sprint("end ", r.End, " ", r.Result, " ", r.Regs)), ", ")
}

func isTold(t *testing.T, what string, r api.Trace, want string) {
	t.Helper()
	if got := told(r); got != want {
		t.Errorf("%s: %s, want %s", what, got, want)
	}
}

// cells is cells of the memory: an address, a value, and so on.
func cells(l ...int) []api.Cell {
	var made []api.Cell
	for c := range slices.Chunk(l, 2) {
		made = append(made, api.Cell{Addr: c[0], Value: c[1]})
	}
	return made
}

// sum adds up the numbers from its argument down, and stores each sum; what it adds up stands in a slot.
func sum(t testing.TB) api.Code {
	return codeOf(t, tableOf(t, wideText), "q = const 0;spill 2 q;r = const 1;jump 1", "q = reload 2;q = add q p;spill 2 q;p = sub p r;store p q;br p 1 2", "q = move r;p = load q;call g 2;p = call h 1;ret")
}

const summed = "1[2 3], 1[1 5], 1[0 6], 2g[5 1], 2h[4], end 0 50 [50 4 4 70]"

func summing() api.World {
	return api.World{Args: []int{3}, Mem: cells(1, 7, 1, 8, 0, 9), Oracle: []int{50, 60}, Fuel: 100, Init: []int{60, 61, 62, 70}, Junk: 4}
}

func TestP1301Ordinary(t *testing.T) {
	c, w := sum(t), summing()
	w.Mem = cells(9, 9)
	isTold(t, "sum", run(t, tableOf(t, wideText), c, w), "1[2 3], 1[1 5], 1[0 6], 2g[5 1], 2h[4], end 0 50 [50 4 4 70]")
	for _, name := range shipped.Names() {
		x := shippedTable(t, name)
		a, _ := x.Reg(x.Machine().Args[0])
		b, _ := x.Reg(x.Machine().Args[1])
		text := "code f\nslots 2\nblock\n  A = move B\n  spill 1 A\n  A = reload 1\n  store B A\n  call h 2\n  ret\nend\n"
		c, line, err := mach.Read(x, strings.NewReplacer("A", x.Name(a), "B", x.Name(b)).Replace(text))
		if err != api.OK {
			t.Fatal(name, line, err)
		}
		w := api.World{Args: []int{5, -6}, Fuel: 10, Junk: 1}
		r := run(t, x, c, w)
		if told(r) != told(modelOf(x.Machine()).run(c, w)) || !strings.HasPrefix(told(r), "1[-6 -6], 2h[-6 -6], end 0 1 ") || len(r.Regs) != len(x.Machine().Regs) {
			t.Errorf("%s: %s", name, told(r))
		}
	}
}

func TestP1301Errors(t *testing.T) {
	x, fine := tableOf(t, wideText), sum(t)
	bad, other := sum(t), sum(t)
	bad.Blocks[1][1].Name = "nop"
	other.Slots = 2
	for _, y := range []struct {
		what string
		x    *table.Table
		c    api.Code
		fuel int
		err  api.Errno
	}{
		{"fine", x, fine, 5, api.OK}, {"no fuel", x, fine, 0, api.OK}, {"all fuel", x, fine, api.MaxFuel, api.OK},
		{"less than no fuel", x, fine, -1, api.ErrArg}, {"too much fuel", x, fine, api.MaxFuel + 1, api.ErrArg},
		{"the least", x, fine, math.MinInt, api.ErrArg}, {"the most", x, fine, math.MaxInt, api.ErrArg}, {"beyond 32 bits", x, fine, 1<<32 + 5, api.ErrArg},
		{"no table", nil, fine, 5, api.ErrArg}, {"no table, no code", nil, api.Code{}, -1, api.ErrArg},
		{"no operation", x, bad, 5, api.ErrIns}, {"no operation, no fuel", x, bad, -1, api.ErrIns},
		{"no slot", x, other, 5, api.ErrSlot}, {"no slot, too much fuel", x, other, api.MaxFuel + 1, api.ErrSlot},
		{"no code", x, api.Code{}, 5, api.ErrName}, {"a table of nothing", &table.Table{}, fine, 5, api.ErrSlot},
	} {
		r, err := machrun.Run(y.x, y.c, api.World{Args: []int{3}, Fuel: y.fuel, Init: []int{1, 2, 3}, Junk: 5})
		if err != y.err {
			t.Errorf("%s: error %d, want %d", y.what, err, y.err)
		}
		if err != api.OK && !reflect.DeepEqual(r, api.Trace{}) {
			t.Errorf("%s: %+v beside an error", y.what, r)
		}
	}
}

// TestP1301ErrorsAreMachs: each error of code is mach.Check's.
func TestP1301ErrorsAreMachs(t *testing.T) {
	x := tableOf(t, wideText)
	for i, turn := range []func(c *api.Code){
		func(c *api.Code) { c.Blocks = make([][]api.Ins, 201) }, func(c *api.Code) { c.Name = "" }, func(c *api.Code) { c.Name = "9" }, func(c *api.Code) { c.Slots = -1 }, func(c *api.Code) { c.Slots = 6 },
		func(c *api.Code) { c.Blocks = nil }, func(c *api.Code) { c.Blocks[1] = nil }, func(c *api.Code) { c.Blocks[0] = make([]api.Ins, 25601) }, func(c *api.Code) { c.Blocks[0][0].Kind = math.MinInt },
		func(c *api.Code) { c.Blocks[0][0].Kind = 0 }, func(c *api.Code) { c.Blocks[0][0].Kind = 12 }, func(c *api.Code) { c.Blocks[0][0].D = math.MaxInt }, func(c *api.Code) { c.Blocks[0][0].D = -1 },
		func(c *api.Code) { c.Blocks[0][1].N = 3 }, func(c *api.Code) { c.Blocks[0][1].N = -1 }, func(c *api.Code) { c.Blocks[1][0].N = math.MinInt }, func(c *api.Code) { c.Blocks[1][4].B = 4 },
		func(c *api.Code) { c.Blocks[1][5].T = 3 }, func(c *api.Code) { c.Blocks[1][5].F = -1 }, func(c *api.Code) { c.Blocks[1] = c.Blocks[1][:5] }, func(c *api.Code) { c.Blocks[1][1].Args = nil },
		func(c *api.Code) { c.Blocks[1][1].Args[1] = 9 }, func(c *api.Code) { c.Blocks[2][2].N = 3 }, func(c *api.Code) { c.Blocks[2][2].N = -1 }, func(c *api.Code) { c.Blocks[2][2].D = 1 }, func(c *api.Code) { c.Blocks[2][3].D = -2 },
	} {
		c := sum(t)
		turn(&c)
		_, _, want := mach.Check(x, c)
		if _, err := machrun.Run(x, c, api.World{Fuel: 50}); err != want || want == api.OK {
			t.Errorf("%d: error %d, want %d", i, err, want)
		}
		if _, err := machrun.Run(x, c, api.World{Fuel: -50}); err != want {
			t.Errorf("%d: error %d ahead of the fuel's, want %d", i, err, want)
		}
	}
}

// TestP1301TableOfNothing: code without registers is taken for it; it has no outer register, and returns 0.
func TestP1301TableOfNothing(t *testing.T) {
	c := api.Code{Name: "f", Blocks: [][]api.Ins{{{Kind: api.KCall, D: -1, Name: "h"}, {Kind: api.KCall, Name: "k"}, {Kind: api.KJump, T: 1}}, {{Kind: api.KRet}}}}
	w := api.World{Args: []int{7}, Oracle: []int{8}, Fuel: 9, Init: []int{9, 9}, Junk: -1}
	isTold(t, "nothing", run(t, &table.Table{}, c, w), "2h[], 2k[], end 0 0 []")
	w.Fuel = 2
	isTold(t, "spent", run(t, &table.Table{}, c, w), "2h[], 2k[], end 3 0 []")
}

// TestP1301Start: what registers have at first.
func TestP1301Start(t *testing.T) {
	x, o := tableOf(t, smallText), tableOf(t, oddText)
	for _, y := range []struct {
		what       string
		x          *table.Table
		init, args []int
		want       string
	}{
		{"nothing", x, nil, nil, "end 0 0 [0 0 0 0]"},
		{"Init", x, []int{1, 2, 3, 4}, nil, "end 0 1 [1 2 3 4]"},
		{"less", x, []int{1, 2}, nil, "end 0 1 [1 2 0 0]"},
		{"more", x, []int{1, 2, 3, 4, 5, 6}, nil, "end 0 1 [1 2 3 4]"},
		{"cut", x, []int{-1, 65536, 65537, 1<<40 - 2}, nil, "end 0 65535 [65535 0 1 65534]"},
		{"Args", x, nil, []int{5, 6}, "end 0 5 [5 6 0 0]"},
		{"Args over Init", x, []int{1, 2, 3, 4}, []int{5, 6}, "end 0 5 [5 6 3 4]"},
		{"one of Args", x, []int{1, 2, 3, 4}, []int{5}, "end 0 5 [5 2 3 4]"},
		{"more Args", x, []int{1, 2, 3, 4}, []int{5, 6, 7, 8, 9}, "end 0 5 [5 6 3 4]"},
		{"Args cut", x, []int{1, 2, 3, 4}, []int{-1, 65536}, "end 0 65535 [65535 0 3 4]"},
		{"each width", o, many(8, -1), nil, "end 0 255 [-1 -1 -1 65535 65535 1 127 9223372036854775807]"},
		{"each width but Args", o, many(9, -1), []int{0, 0, 0, 0, 0}, "end 0 255 [-65281 0 -1 0 65535 0 127 9223372036854775807]"},
		{"Args within others", o, nil, []int{-1, math.MinInt, 1<<20 + 7, 3}, "end 0 0 [65280 -9223372036854775808 0 7 0 1 0 0]"},
		{"an arg cut to nothing", o, []int{-1}, []int{256}, "end 0 255 [-65281 0 0 0 0 0 0 0]"},
		{"the edges", o, []int{math.MaxInt, math.MinInt, math.MinInt + 1, 1 << 16, 1<<16 - 1, 2, 128, math.MinInt}, nil, "end 0 255 [9223372036854775807 -9223372036854775808 -9223372036854775807 0 65535 0 0 0]"},
	} {
		isTold(t, y.what, run(t, y.x, codeOf(t, y.x, "ret"), api.World{Args: y.args, Init: y.init, Fuel: 1, Junk: -1}), y.want)
	}
}

// TestP1301EachRegister: a register tells its own bits, and a write changes these alone.
func TestP1301EachRegister(t *testing.T) {
	for _, x := range tables(t) {
		o := modelOf(x.Machine())
		roots := len(x.Machine().Regs)
		for r := range x.Regs() {
			c := api.Code{Name: "f", Blocks: [][]api.Ins{{{Kind: api.KStore, A: r, B: r}, {Kind: api.KConst, D: r}, {Kind: api.KStore, A: r, B: r}, {Kind: api.KRet}}}}
			for _, n := range []int{0, -1, 1, 0x5A5A, math.MaxInt, math.MinInt, 1 << 32} {
				c.Blocks[0][1].N = n
				for _, first := range []int{0, -1, 0x123456789ABCDEF, math.MinInt} {
					w := api.World{Init: many(roots, first), Fuel: 4}
					isTold(t, fmt.Sprint(x.Name(r), " is ", n), run(t, x, c, w), told(o.run(c, w)))
				}
			}
		}
	}
}

func TestP1301Registers(t *testing.T) {
	x, o := tableOf(t, smallText), tableOf(t, oddText)
	for _, y := range []struct {
		what, block string
		x           *table.Table
		init        []int
		want        string
	}{
		{"lower", "al = const 300;ret", x, []int{0x1111}, "end 0 4396 [4396 0 0 0]"},
		{"upper", "ah = const -1;ret", x, []int{0x1111}, "end 0 65297 [65297 0 0 0]"},
		{"the middle", "dm = const -1;ret", x, nil, "end 0 0 [0 0 0 960]"},
		{"the middle, to 0", "dm = const 16;ret", x, many(4, -1), "end 0 65535 [65535 65535 65535 64575]"},
		{"the whole behind its part", "ah = const 9;a = const 1;ret", x, nil, "end 0 1 [1 0 0 0]"},
		{"the part behind its whole", "a = const 1;ah = const 9;ret", x, nil, "end 0 2305 [2305 0 0 0]"},
		{"the topmost bit", "bz = const 3;k = const -1;kz = const 0;ret", o, nil, "end 0 0 [0 -9223372036854775808 0 0 0 0 0 4611686018427387903]"},
		{"two of one place", "ee = const 5;ret", o, many(8, -1), "end 0 255 [-1 -1 -1 65535 5 1 127 9223372036854775807]"},
		{"in the middle of 7 bits", "jm = const 2;ret", o, many(8, -1), "end 0 255 [-1 -1 -1 65535 65535 1 107 9223372036854775807]"},
	} {
		isTold(t, y.what, run(t, y.x, codeOf(t, y.x, y.block), api.World{Init: y.init, Fuel: 9}), y.want)
	}
}

// TestP1301Example: writing 1 to ah of rax 0.
func TestP1301Example(t *testing.T) {
	x := shippedTable(t, "x86")
	r := run(t, x, codeOf(t, x, "ah = const 1;ret"), api.World{Fuel: 2})
	if r.Result != 256 || r.Regs[0] != 256 || r.End != api.Returned || len(r.Events) > 0 {
		t.Errorf("%+v", r)
	}
	// What lies around a register that is written stays as it was.
	r = run(t, x, codeOf(t, x, "ah = const 1;eax = move ecx;ret"), api.World{Fuel: 3, Init: []int{1<<40 + 3, 1<<50 + 5}})
	if r.Result != 1<<40+5 {
		t.Errorf("%+v", r)
	}
}

func TestP1301Copies(t *testing.T) {
	x := tableOf(t, smallText)
	for block, want := range map[string]string{
		"a = move b":                "end 0 515 [515 515 1029 1543]",
		"al = move ah":              "end 0 257 [257 515 1029 1543]",
		"ah = move al":              "end 0 514 [514 515 1029 1543]",
		"bh = move ah":              "end 0 258 [258 259 1029 1543]",
		"al = move al":              "end 0 258 [258 515 1029 1543]",
		"al = move bh;bh = move bl": "end 0 258 [258 771 1029 1543]",
		"c = move d;d = move c":     "end 0 258 [258 515 1543 1543]",
		"dm = const 9;dm = move dm": "end 0 258 [258 515 1029 1607]",
	} {
		isTold(t, block, run(t, x, codeOf(t, x, block+";ret"), api.World{Init: []int{258, 515, 1029, 1543}, Fuel: 9, Junk: -1}), want)
	}
	o := tableOf(t, oddText)
	isTold(t, "a part of 16 bits", run(t, o, codeOf(t, o, "au = move d;e = move au;d = move ee;ret"), api.World{Init: []int{-1, 0, 0, 0x1234}, Fuel: 9}), "end 0 255 [1311954866448367615 0 0 4660 4660 0 0 0]")
}

func TestP1301Operations(t *testing.T) {
	x := tableOf(t, smallText)
	for _, y := range []struct {
		what, block, want string
	}{
		{"at the width of D", "al = const 200;bl = const 100;al = sub bl al;ret", "end 0 412 [412 100 0 0]"},
		{"of one use", "ah = not al;ret", "end 0 64770 [64770 0 0 0]"},
		{"one register", "b = const 40000;b = add b b;ret", "end 0 258 [258 14464 0 0]"},
		{"not tied", "b = const 3;c = xor a b;ret", "end 0 258 [258 3 257 512]"},
		{"destroyed", "b = const 9;d = const 5;a = div a b;ret", "end 0 28 [28 9 0 4660]"},
		{"what is destroyed is read first", "d = const 5;a = div a d;ret", "end 0 51 [51 0 0 4660]"},
		{"destroyed beside what is written", "b = const 1799;al = rem bh bl;ret", "end 0 4608 [4608 1844 0 0]"},
		{"a part is destroyed", "d = const -1;b = xor a a;ret", "end 0 258 [258 0 0 65087]"},
		{"what is written holds", "ah = const 7;bl = const 4;al = rem ah bl;ret", "end 0 4611 [4611 52 0 0]"},
	} {
		isTold(t, y.what, run(t, x, codeOf(t, x, y.block), api.World{Init: []int{258}, Fuel: 9, Junk: 0x1234}), y.want)
	}
}

// TestP1301OperationWidths: an operation is done at the width of its D, whatever it is.
func TestP1301OperationWidths(t *testing.T) {
	x := tableOf(t, oddText)
	for block, want := range map[string]string{
		"a = add a c":    "end 0 253 [-3 0 -2 0 0 0 0 0]",
		"b = xor a c":    "end 0 255 [-1 1 -2 0 0 0 0 0]",
		"b = shl a c":    "end 0 255 [-1 -4611686018427387904 -2 0 0 0 0 0]",
		"bl = shr al bh": "end 0 255 [-1 255 -2 0 0 0 0 0]",
		"a = div a c":    "end 0 1 [1 7 -2 0 0 0 0 0]",
		"bz = eq bz i":   "end 0 255 [-1 -9223372036854775808 -2 0 0 0 0 7]",
		"bh = lt bl al":  "end 0 255 [-1 256 -2 0 0 0 4 0]",
		"e = or au d":    "end 0 255 [-1 0 -2 7 65535 1 7 0]",
		"d = mul au au":  "end 0 7 [7 0 -2 1 0 0 0 0]",
		"ah = rem dl al": "end 0 7 [-65529 0 -2 0 0 0 0 0]",
		"dh = not dl":    "end 0 7 [-4294967289 0 -2 65280 0 0 0 0]",
	} {
		isTold(t, block, run(t, x, codeOf(t, x, block+";ret"), api.World{Init: []int{-1, 0, -2}, Fuel: 9, Junk: 7}), want)
	}
}

func TestP1301Slots(t *testing.T) {
	x, o := tableOf(t, smallText), tableOf(t, oddText)
	for _, y := range []struct {
		what, block string
		x           *table.Table
		want        string
	}{
		{"0 at first", "a = reload 0;bl = reload 1;d = reload 2;ret", x, "end 0 0 [0 512 1029 0]"},
		{"as it was", "spill 0 a;spill 1 b;spill 2 c;c = reload 0;a = reload 2;b = reload 1;ret", x, "end 0 1029 [1029 515 258 1543]"},
		{"over another", "spill 1 a;spill 1 b;a = reload 1;ret", x, "end 0 515 [515 515 1029 1543]"},
		{"cut", "a = const 513;spill 0 a;bh = reload 0;ret", x, "end 0 513 [513 259 1029 1543]"},
		{"cut to the middle", "d = const -1;spill 0 d;d = const 0;dm = reload 0;ret", x, "end 0 258 [258 515 1029 960]"},
		{"a narrow one", "spill 0 ah;c = reload 0;ret", x, "end 0 258 [258 515 1 1543]"},
		{"a narrow one over a wide one", "spill 0 d;spill 0 bh;c = reload 0;ret", x, "end 0 258 [258 515 2 1543]"},
		{"a cut one is whole in its slot", "spill 0 c;al = reload 0;d = reload 0;ret", x, "end 0 261 [261 515 1029 1029]"},
		{"what was spilled stays", "spill 0 a;a = const 7;b = reload 0;spill 0 b;ret", x, "end 0 7 [7 258 1029 1543]"},
		{"64 bits", "c = const -1;spill 2 c;a = reload 2;k = reload 2;i = reload 2;ret", o, "end 0 255 [-1 515 -1 1543 0 1 0 9223372036854775807]"},
		{"over a call", "spill 0 a;call h 0;b = reload 0;ret", x, "2h[], end 0 4660 [4660 258 1029 4660]"},
	} {
		isTold(t, y.what, run(t, y.x, codeOf(t, y.x, y.block), api.World{Init: []int{258, 515, 1029, 1543}, Fuel: 9, Junk: 0x1234}), y.want)
	}
	// Each slot is one of its own.
	c := api.Code{Name: "f", Slots: 20, Blocks: [][]api.Ins{nil}}
	var want []string
	for i := range 20 {
		c.Blocks[0] = append(c.Blocks[0], api.Ins{Kind: api.KConst, N: 100 + i}, api.Ins{Kind: api.KSpill, N: i})
	}
	for i := range 20 {
		c.Blocks[0] = append(c.Blocks[0], api.Ins{Kind: api.KReload, N: i}, api.Ins{Kind: api.KStore})
		want = append(want, fmt.Sprintf("1[%d %d]", 100+i, 100+i))
	}
	c.Blocks[0] = append(c.Blocks[0], api.Ins{Kind: api.KRet})
	isTold(t, "all slots", run(t, x, c, api.World{Fuel: 100}), strings.Join(append(want, "end 0 119 [119 0 0 0]"), ", "))
}

func TestP1301Memory(t *testing.T) {
	x, o := tableOf(t, smallText), tableOf(t, oddText)
	for _, y := range []struct {
		what, block string
		x           *table.Table
		init        []int
		mem         []api.Cell
		want        string
	}{
		{"nothing there", "b = load a;ret", x, []int{5, 9}, nil, "end 0 5 [5 0 0 0]"},
		{"a cell", "b = load a;ret", x, []int{5}, cells(5, 7, 6, 8), "end 0 5 [5 7 0 0]"},
		{"the last of two", "b = load a;ret", x, []int{5}, cells(5, 1, 4, 3, 5, 2, 6, 4), "end 0 5 [5 2 0 0]"},
		{"the last of three is 0", "b = load a;ret", x, []int{5, 9}, cells(5, 1, 5, 2, 5, 0), "end 0 5 [5 0 0 0]"},
		{"cut", "b = load a;dm = load a;ret", x, []int{5}, cells(5, 0x12345), "end 0 5 [5 9029 0 320]"},
		{"cut below 0", "b = load a;al = load a;ret", x, []int{5}, cells(5, -2), "end 0 254 [254 65534 0 0]"},
		{"at a narrow address", "a = const -1;c = load ah;d = load a;ret", x, nil, cells(-1, 3, 255, 4, 65535, 5), "end 0 65535 [65535 0 4 5]"},
		{"an address in the middle", "c = load dm;ret", x, []int{0, 0, 0, -1}, cells(15, 3, -1, 4, 960, 5), "end 0 0 [0 0 3 65535]"},
		{"any address", "a = load b;ret", o, []int{0, -5}, cells(-5, math.MinInt, 5, 4), "end 0 0 [-9223372036854775808 -5 0 0 0 0 0 0]"},
		{"the least address", "a = load b;ret", o, []int{0, math.MinInt}, cells(math.MinInt, math.MaxInt), "end 0 255 [9223372036854775807 -9223372036854775808 0 0 0 0 0 0]"},
		{"stored", "store a b;c = load a;ret", x, []int{5, 6}, nil, "1[5 6], end 0 5 [5 6 6 0]"},
		{"stored over a cell", "store a b;c = load a;ret", x, []int{5, 6}, cells(5, 8), "1[5 6], end 0 5 [5 6 6 0]"},
		{"stored twice", "store a b;store a a;c = load a;ret", x, []int{5, 6}, cells(5, 8), "1[5 6], 1[5 5], end 0 5 [5 6 5 0]"},
		{"stored elsewhere", "store b a;c = load a;ret", x, []int{5, 6}, cells(5, 8), "1[6 5], end 0 5 [5 6 8 0]"},
		{"parts stored", "store ah bl;store dm al;c = load ah;ret", x, []int{0x1234, 0x5678, 0, 0x0FFF}, nil, "1[18 120], 1[15 52], end 0 4660 [4660 22136 120 4095]"},
		{"a wide one stored, a narrow one loaded", "store i a;al = load i;store i a;ret", o, []int{-2}, nil, "1[0 -2], 1[0 -2], end 0 254 [-2 0 0 0 0 0 0 0]"},
		{"an address that is written", "a = load a;ret", x, []int{5}, cells(5, 6, 6, 7), "end 0 6 [6 0 0 0]"},
		{"a part of the address", "al = load a;ret", x, []int{517}, cells(517, 600, 600, 7), "end 0 600 [600 0 0 0]"},
		{"one alone, at itself", "store a a;a = load a;ret", x, []int{-1}, nil, "1[65535 65535], end 0 65535 [65535 0 0 0]"},
	} {
		isTold(t, y.what, run(t, y.x, codeOf(t, y.x, y.block), api.World{Init: y.init, Mem: y.mem, Fuel: 20, Junk: -1}), y.want)
	}
}

func TestP1301Calls(t *testing.T) {
	x, o := tableOf(t, smallText), tableOf(t, oddText)
	for _, y := range []struct {
		what, block string
		x           *table.Table
		oracle      []int
		junk        int
		want        string
	}{
		{"nothing to answer", "a = call h 0;ret", x, nil, 0x1234, "2h[], end 0 0 [0 564 1029 4660]"},
		{"answered", "a = call h 0;ret", x, []int{5, 6}, 0x1234, "2h[], end 0 5 [5 564 1029 4660]"},
		{"answered, cut", "a = call h 0;ret", x, []int{65536 + 77, 6}, 0x1234, "2h[], end 0 77 [77 564 1029 4660]"},
		{"not wanted", "call h 0;ret", x, []int{5, 6}, 0x1234, "2h[], end 0 4660 [4660 564 1029 4660]"},
		{"in order", "a = call h 0;a = call h 1;a = call h 1;a = call h 1;ret", x, []int{5, 6, 7}, 0, "2h[], 2h[5], 2h[6], 2h[7], end 0 0 [0 512 1029 0]"},
		{"some not wanted", "call h 1;a = call k 1;call h 1;a = call k 1;ret", x, []int{5, 6, 7}, 9, "2h[258], 2k[9], 2h[5], 2k[9], end 0 6 [6 521 1029 9]"},
		{"arguments", "call h 2;a = const 3;call g 1;call k 0;ret", x, nil, 0, "2h[258 515], 2g[3], 2k[], end 0 0 [0 512 1029 0]"},
		{"arguments as they are", "ah = const 255;bl = const 256;call h 2;ret", x, nil, -1, "2h[65282 512], end 0 65535 [65535 767 1029 65535]"},
		{"behind it they are junk", "call h 2;call h 2;ret", x, nil, -1, "2h[258 515], 2h[65535 767], end 0 65535 [65535 767 1029 65535]"},
		{"a name of an operation", "call add 1;call ret 1;ret", x, nil, 0, "2add[258], 2ret[0], end 0 0 [0 512 1029 0]"},
		{"arguments, what is saved, the Result within others", "a = const -1;b = const -1;d = const -1;e = const -1;i = const -1;j = const -1;k = const -1;al = call h 4;ret", o, []int{1<<20 + 5}, 0, "2h[255 -1 65535 1], end 0 5 [5 65280 1029 0 65535 0 28 0]"},
		{"all but what is saved", "a = const 0;b = const 0;c = const 0;d = const 0;e = const 0;i = const 0;j = const 0;k = const 0;call h 4;ret", o, []int{5}, -1, "2h[0 0 0 0], end 0 255 [-1 -65281 0 65535 0 1 99 9223372036854775807]"},
		{"the Result's part alone", "al = call h 0;ret", o, []int{5}, -256, "2h[], end 0 5 [-251 -65024 1029 65280 0 0 0 9223372036854775552]"},
	} {
		isTold(t, y.what, run(t, y.x, codeOf(t, y.x, y.block), api.World{Init: []int{258, 515, 1029, 1543}, Oracle: y.oracle, Fuel: 20, Junk: y.junk}), y.want)
	}
	if r := run(t, x, codeOf(t, x, "call h 0;ret"), api.World{Fuel: 2}); len(r.Events) != 1 || r.Events[0].Kind != 2 || r.Events[0].Name != "h" || len(r.Events[0].Args) != 0 {
		t.Errorf("%+v", r)
	}
}

// TestP1301Junk: each bit that is destroyed is the one of Junk that stands at its place.
func TestP1301Junk(t *testing.T) {
	for _, x := range tables(t) {
		o := modelOf(x.Machine())
		roots := len(x.Machine().Regs)
		for bit := range 64 {
			w := api.World{Fuel: 2, Junk: 1 << bit, Init: many(roots, 0)}
			c := codeOf(t, x, "call h 0;ret")
			isTold(t, fmt.Sprint("bit ", bit), run(t, x, c, w), told(o.run(c, w)))
			w.Init, w.Junk = many(roots, -1), ^w.Junk
			isTold(t, fmt.Sprint("all but bit ", bit), run(t, x, c, w), told(o.run(c, w)))
		}
	}
	x := tableOf(t, smallText)
	// ah, from bit 8 on, and bl, from bit 0 on.
	isTold(t, "an operation's", run(t, x, codeOf(t, x, "al = const 1;al = rem al al;ret"), api.World{Fuel: 3, Junk: 0x1234, Init: many(4, -1)}), "end 0 4608 [4608 65332 65535 65535]")
}

func TestP1301Branches(t *testing.T) {
	x := tableOf(t, smallText)
	for _, y := range []struct {
		what   string
		blocks []string
		arg    int
		want   string
	}{
		{"to T", []string{"br a 1 2", "a = const 10;ret", "a = const 11;ret"}, 1, "end 0 10 [10 0 0 0]"},
		{"to F", []string{"br a 1 2", "a = const 10;ret", "a = const 11;ret"}, 0, "end 0 11 [11 0 0 0]"},
		{"the highest bit", []string{"br a 1 2", "a = const 10;ret", "a = const 11;ret"}, 1 << 15, "end 0 10 [10 0 0 0]"},
		{"cut to 0", []string{"br a 1 2", "a = const 10;ret", "a = const 11;ret"}, 1 << 16, "end 0 11 [11 0 0 0]"},
		{"a part that is 0", []string{"br al 1 2", "a = const 10;ret", "a = const 11;ret"}, 256, "end 0 11 [11 0 0 0]"},
		{"a part that is not", []string{"br ah 1 2", "a = const 10;ret", "a = const 11;ret"}, 256, "end 0 10 [10 0 0 0]"},
		{"to one block", []string{"br a 1 1", "ret"}, 7, "end 0 7 [7 0 0 0]"},
		{"past a block", []string{"jump 2", "a = const 10;ret", "ret"}, 5, "end 0 5 [5 0 0 0]"},
		{"back", []string{"jump 2", "ret", "a = const 7;jump 1"}, 5, "end 0 7 [7 0 0 0]"},
		{"to the beginning", []string{"b = const 1;a = xor a b;br a 0 1", "ret"}, 0, "end 0 0 [0 1 0 0]"},
		{"a beginning anew leaves all", []string{"b = add b a;a = xor a a;c = const 1;br b 1 0", "store b c;ret"}, 5, "1[5 1], end 0 0 [0 5 1 0]"},
		{"not reached", []string{"ret", "a = div a b;jump 1"}, 5, "end 0 5 [5 0 0 0]"},
		{"to itself by F", []string{"jump 1", "b = const 1;a = xor a b;br a 2 1", "ret"}, 1, "end 0 1 [1 1 0 0]"},
	} {
		isTold(t, y.what, run(t, x, codeOf(t, x, y.blocks...), api.World{Args: []int{y.arg}, Fuel: 50}), y.want)
	}
}

func TestP1301Returns(t *testing.T) {
	o := tableOf(t, oddText)
	isTold(t, "a part", run(t, o, codeOf(t, o, "ret"), api.World{Init: []int{-2}, Fuel: 1}), "end 0 254 [-2 0 0 0 0 0 0 0]")
	x := tableOf(t, wideText)
	isTold(t, "64 bits", run(t, x, codeOf(t, x, "ret"), api.World{Args: []int{math.MinInt, 9}, Fuel: 1}), "end 0 -9223372036854775808 [-9223372036854775808 9 0 0]")
	isTold(t, "the Result alone", run(t, x, codeOf(t, x, "q = const 7;ret"), api.World{Fuel: 2}), "end 0 0 [0 7 0 0]")
}

func TestP1301Traps(t *testing.T) {
	x := tableOf(t, smallText)
	for _, y := range []struct {
		what, block, want string
	}{
		{"div", "d = const 5;a = div a c;ret", "end 1 0 [7 9 0 5]"},
		{"rem", "al = rem bl bh;ret", "end 1 0 [7 9 0 0]"},
		{"nothing is destroyed", "ah = const 3;al = rem al bh;ret", "end 1 0 [775 9 0 0]"},
		{"cut to 0", "bl = const 256;al = rem al bl;ret", "end 1 0 [7 0 0 0]"},
		{"0 by 0", "a = const 0;a = div a c;ret", "end 1 0 [0 9 0 0]"},
		{"not by 0", "a = div a b;ret", "end 0 0 [0 9 0 4660]"},
		{"behind events", "store a b;call h 1;b = const 0;a = div a b;store a a;ret", "1[7 9], 2h[7], end 1 0 [4660 0 0 4660]"},
	} {
		isTold(t, y.what, run(t, x, codeOf(t, x, y.block), api.World{Args: []int{7, 9}, Fuel: 20, Junk: 0x1234}), y.want)
	}
	// The step that traps is begun with the last of the fuel, and is not with none.
	c := codeOf(t, x, "store a a;a = div a c;ret")
	for fuel, want := range []string{"end 3 0 [7 0 0 0]", "1[7 7], end 3 0 [7 0 0 0]", "1[7 7], end 1 0 [7 0 0 0]", "1[7 7], end 1 0 [7 0 0 0]"} {
		isTold(t, fmt.Sprint("fuel ", fuel), run(t, x, c, api.World{Args: []int{7}, Fuel: fuel}), want)
	}
}

// TestP1301Fuel: with each fuel a run is the beginning of the whole one, and tells what registers have then.
func TestP1301Fuel(t *testing.T) {
	x, c, w := tableOf(t, wideText), sum(t), summing()
	o := modelOf(x.Machine())
	// How many steps there are ahead of each event, itself too.
	at, whole := []int{9, 15, 21, 25, 26}, strings.Split(summed, ", ")
	for fuel := range 35 {
		w.Fuel = fuel
		r := run(t, x, c, w)
		isTold(t, fmt.Sprint("fuel ", fuel), r, told(o.run(c, w)))
		seen := 0
		for _, n := range at {
			if n <= fuel {
				seen++
			}
		}
		if l := strings.Split(told(r), ", "); !slices.Equal(l[:len(l)-1], whole[:seen]) || (r.End == api.Returned) != (fuel >= 27) || r.End != api.Returned && (r.End != api.Spent || r.Result != 0) {
			t.Errorf("fuel %d: %s", fuel, told(r))
		}
	}
	w.Fuel = 0
	isTold(t, "none", run(t, x, c, w), "end 3 0 [3 61 62 70]")
	w.Fuel = 27
	isTold(t, "enough", run(t, x, c, w), summed)
}

// TestP1301AllFuel: as many steps as can be.
func TestP1301AllFuel(t *testing.T) {
	x := tableOf(t, wideText)
	isTold(t, "jumps", run(t, x, codeOf(t, x, "jump 0"), api.World{Fuel: api.MaxFuel}), "end 3 0 [0 0 0 0]")
	r := run(t, x, codeOf(t, x, "q = const 1;jump 1", "p = add p q;store q p;jump 1"), api.World{Fuel: api.MaxFuel})
	if n := (api.MaxFuel - 1) / 3; r.End != api.Spent || r.Result != 0 || len(r.Events) != n || r.Events[n-1].Args[1] != n {
		t.Errorf("end %d, %d events", r.End, len(r.Events))
	}
	r = run(t, x, codeOf(t, x, "p = call h 2;jump 0"), api.World{Fuel: api.MaxFuel, Junk: 3, Args: []int{0, 3}})
	if n := api.MaxFuel / 2; r.End != api.Spent || len(r.Events) != n || !slices.Equal(r.Events[n-1].Args, []int{0, 3}) {
		t.Errorf("end %d, %d events", r.End, len(r.Events))
	}
	// The last step of all that can be returns.
	c := codeOf(t, x, "q = const 1;jump 1", "p = sub p q;br p 1 2", "ret")
	steps := (api.MaxFuel - 3) / 2
	isTold(t, "the last step", run(t, x, c, api.World{Args: []int{steps}, Fuel: 2*steps + 3, Init: []int{0, 0, 0, 9}}), "end 0 0 [0 1 0 9]")
	isTold(t, "one too many", run(t, x, c, api.World{Args: []int{steps}, Fuel: 2*steps + 2}), "end 3 0 [0 1 0 0]")
}

// TestP1301GreatMachine: as many registers and destroyed ones as can be, in as many steps as can be.
func TestP1301GreatMachine(t *testing.T) {
	var regs, all []string
	for i := range 200 {
		regs = append(regs, fmt.Sprint("  reg r", i, " 64\n"))
		all = append(all, fmt.Sprint("r", i))
	}
	k, clob := strings.Join(all[:64], " "), strings.Join(all[64:128], " ")
	x := tableOf(t, "machine m {\n"+strings.Join(regs, "")+"  class g = "+k+"\n  op xor g = g g clob "+clob+"\n  args "+strings.Join(all[:16], " ")+"\n  result r0\n  saved "+strings.Join(all[10:64], " ")+"\n  slots 1000\n}\n")
	c := codeOf(t, x, "r1 = xor r2 r3;r0 = call h 16;jump 0")
	o := modelOf(x.Machine())
	w := api.World{Fuel: 7, Junk: -7, Init: []int{1, 2, 3, 4, 5, 6, 7}, Oracle: []int{99}}
	isTold(t, "some steps", run(t, x, c, w), told(o.run(c, w)))
	w.Fuel = api.MaxFuel
	if r := run(t, x, c, w); r.End != api.Spent || len(r.Events) != api.MaxFuel/3 || len(r.Regs) != 200 || r.Regs[199] != -7 {
		t.Errorf("end %d, %d events, %d registers", r.End, len(r.Events), len(r.Regs))
	}
}

// TestP1302AgainstModel: code that is taken, on worlds.
func TestP1302AgainstModel(t *testing.T) {
	s := steps(1302)
	ends, events := map[int]int{}, 0
	for _, x := range tables(t) {
		g := generator{steps: &s, model: modelOf(x.Machine())}
		for range 4000 {
			c, w := g.code(), g.world()
			want := g.run(c, w)
			got, err := machrun.Run(x, c, w)
			if err != api.OK || told(got) != told(want) {
				t.Fatalf("error %d, %s, want %s: %+v, %+v", err, told(got), told(want), c, w)
			}
			ends[want.End]++
			events += len(want.Events)
		}
	}
	for end, least := range map[int]int{api.Returned: 4000, api.Trapped: 1000, api.Spent: 4000} {
		if ends[end] < least {
			t.Errorf("end %d: %d times, want %d", end, ends[end], least)
		}
	}
	if events < 50000 || ends[api.Undefined] > 0 {
		t.Errorf("%d events, %d undefined", events, ends[api.Undefined])
	}
}

// TestP1302RegsAtEachEnd: what the outer registers have is told, however a run ends.
func TestP1302RegsAtEachEnd(t *testing.T) {
	x := tableOf(t, smallText)
	for block, want := range map[string]string{
		"c = const 9;ret":                         "end 0 1 [1 2 9 4]",
		"c = const 9;b = xor b b;a = div a b;ret": "end 1 0 [1 0 9 4]",
		"c = const 9;jump 0":                      "end 3 0 [1 2 9 4]",
	} {
		isTold(t, block, run(t, x, codeOf(t, x, block), api.World{Init: []int{1, 2, 3, 4}, Fuel: 20}), want)
	}
}
