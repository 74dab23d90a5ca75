package virrun_test

import (
	"fmt"
	"math"
	"reflect"
	"slices"
	"strconv"
	"strings"
	"sync"
	"testing"

	"pigeonhole/api"
	"pigeonhole/parser"
	"pigeonhole/shipped"
	"pigeonhole/table"
	"pigeonhole/vir"
	"pigeonhole/virok"
	"pigeonhole/virrun"
)

// textOf is a machine whose operations have that width: o and k are classes of it, g is of 64 bits, x of 8, i of one.
// The arguments' registers are in g, o, x, i.
func textOf(width int) string {
	return `
machine m {
  reg a 64 { reg al 8 at 0 reg ah 8 at 8 }
  reg b 64
  reg p WIDTH
  reg q WIDTH
  reg r WIDTH
  reg s 1
  reg t 1
  class g = a b
  class o = p q r
  class k = q r
  class x = al ah
  class i = s t
  op add o = o o
  op sub o = o o tie 0
  op mul o = o o
  op and o = o o
  op or o = o o
  op xor o = o o
  op shl o = o k
  op shr o = o k
  op div o:p = o:p o tie 0 clob q
  op rem o:q = o o
  op lt k = o k
  op eq k = o o
  op not k = o
  args b p ah s
  result a
  saved r
  slots 9
}`
}

func machine(t testing.TB, width int) *table.Table {
	t.Helper()
	return tableOf(t, strings.ReplaceAll(textOf(width), "WIDTH", strconv.Itoa(width)))
}

func tableOf(t testing.TB, text string) *table.Table {
	t.Helper()
	m, line, col, err := parser.Parse(text)
	if err != api.OK {
		t.Fatalf("the description: error %d at %d %d", err, line, col)
	}
	x, err := table.Make(m)
	if err != api.OK {
		t.Fatalf("the description: error %d", err)
	}
	return x
}

// funcOf is a function of registers 0 and 1 of g, 2 and 3 of o, 4 and 5 of k, 6 of x, 7 of i; its blocks are written
// with `;` between instructions.
func funcOf(t testing.TB, params string, blocks ...string) api.Func {
	t.Helper()
	text := "func f\nregs g g o o k k x i\n" + strings.TrimSpace("params "+params) + "\nresult g\n"
	for _, b := range blocks {
		text += "block\n  " + strings.ReplaceAll(b, ";", "\n  ") + "\n"
	}
	f, line, err := vir.Read(text + "end\n")
	if err != api.OK {
		t.Fatalf("the function: error %d at %d: %s", err, line, text)
	}
	return f
}

func run(t testing.TB, x *table.Table, f api.Func, w api.World) api.Trace {
	t.Helper()
	r, err := virrun.Run(x, f, w)
	if err != api.OK {
		t.Fatalf("error %d", err)
	}
	return r
}

// told is a run as a text: its events, and its end.
func told(r api.Trace) string {
	var l []string
	for _, e := range r.Events {
		l = append(l, strings.TrimSpace(fmt.Sprint(e.Kind, e.Name, e.Args)))
	}
	return strings.Join(append(l, fmt.Sprint("end ", r.End, " ", r.Result)), ", ")
}

func isTold(t *testing.T, what string, r api.Trace, want string) {
	t.Helper()
	if got := told(r); got != want || len(r.Regs) != 0 {
		t.Errorf("%s: %s, want %s (Regs %v)", what, got, want, r.Regs)
	}
}

// cells is cells of the memory: an address, a value, and so on.
func cells(l ...int) []api.Cell {
	var made []api.Cell
	for c := range slices.Chunk(l, 2) {
		made = append(made, api.Cell{Addr: c[0], Value: c[1]})
	}
	return made
}

// sum adds up the numbers from its Param down, and stores each sum.
func sum(t testing.TB) api.Func {
	f, _, err := vir.Read("func sum\nregs g g g g\nparams 0\nresult g\nblock\n  1 = const 0\n  2 = const 1\n  jump 1\nblock\n  1 = add 1 0\n  0 = sub 0 2\n  store 0 1\n  br 0 1 2\nblock\n  3 = load 2\n  3 = call f 3 1\n  call g\n  1 = copy 3\n  ret 1\nend\n")
	if err != api.OK {
		t.Fatal(err)
	}
	return f
}

func shippedTable(t testing.TB, name string) *table.Table {
	t.Helper()
	s, err := shipped.Text(name)
	if err != api.OK {
		t.Fatal(err)
	}
	return tableOf(t, s)
}

func TestP1102Ordinary(t *testing.T) {
	for _, name := range shipped.Names() {
		x := shippedTable(t, name)
		w := api.World{Args: []int{3}, Mem: []api.Cell{{Addr: 1, Value: 7}, {Addr: 1, Value: 8}}, Oracle: []int{50}, Fuel: 100}
		isTold(t, name, run(t, x, sum(t), w), "1[2 3], 1[1 5], 1[0 6], 2f[5 6], 2g[], end 0 50")
		w.Args = []int{1}
		isTold(t, name, run(t, x, sum(t), w), "1[0 1], 2f[8 1], 2g[], end 0 50")
		gcd, _, _ := vir.Read("func gcd\nregs g g g\nparams 0 1\nresult g\nblock\n  jump 1\nblock\n  br 1 2 3\nblock\n  2 = rem 0 1\n  0 = copy 1\n  1 = copy 2\n  jump 1\nblock\n  ret 0\nend\n")
		isTold(t, name, run(t, x, gcd, api.World{Args: []int{1071, 462}, Fuel: 100}), "end 0 21")
		isTold(t, name, run(t, x, gcd, api.World{Args: []int{-1, 10}, Fuel: 100}), "end 0 5")
	}
}

func TestP1102Errors(t *testing.T) {
	x := shippedTable(t, "riscv")
	bad := sum(t)
	bad.Blocks[1][0].Name = "nop"
	unwritten := sum(t)
	unwritten.Params = nil
	for _, y := range []struct {
		what string
		x    *table.Table
		f    api.Func
		fuel int
		err  api.Errno
	}{
		{"fine", x, sum(t), 5, api.OK}, {"no fuel", x, sum(t), 0, api.OK}, {"all fuel", x, sum(t), api.MaxFuel, api.OK},
		{"less than no fuel", x, sum(t), -1, api.ErrArg}, {"too much fuel", x, sum(t), api.MaxFuel + 1, api.ErrArg},
		{"the least", x, sum(t), math.MinInt, api.ErrArg}, {"the most", x, sum(t), math.MaxInt, api.ErrArg}, {"beyond 32 bits", x, sum(t), 1<<32 + 5, api.ErrArg},
		{"no table", nil, sum(t), 5, api.ErrArg}, {"no table, no function", nil, api.Func{}, -1, api.ErrArg},
		{"no operation", x, bad, 5, api.ErrIns}, {"no operation, no fuel", x, bad, -1, api.ErrIns},
		{"not written", x, unwritten, 5, api.ErrVreg}, {"not written, too much fuel", x, unwritten, api.MaxFuel + 1, api.ErrVreg},
		{"no function", x, api.Func{}, 5, api.ErrName}, {"a table of nothing", &table.Table{}, sum(t), 5, api.ErrVreg},
	} {
		w := api.World{Args: []int{3}, Fuel: y.fuel}
		r, err := virrun.Run(y.x, y.f, w)
		if err != y.err {
			t.Errorf("%s: error %d, want %d", y.what, err, y.err)
		}
		if err != api.OK && !reflect.DeepEqual(r, api.Trace{}) {
			t.Errorf("%s: %+v beside an error", y.what, r)
		}
	}
}

// TestP1102ErrorsAreVirok's: each error of a function is virok.Check's.
func TestP1102ErrorsAreViroks(t *testing.T) {
	x := shippedTable(t, "x86")
	for i, turn := range []func(f *api.Func){
		func(f *api.Func) { f.Vregs = make([]string, 501) }, func(f *api.Func) { f.Blocks = make([][]api.Ins, 201) }, func(f *api.Func) { f.Name = "" }, func(f *api.Func) { f.Vregs[3] = "z" },
		func(f *api.Func) { f.Params = make([]int, 17) }, func(f *api.Func) { f.Params = []int{0, 0} }, func(f *api.Func) { f.Params = []int{math.MaxInt} }, func(f *api.Func) { f.Params = []int{-1} },
		func(f *api.Func) { f.Result = "d" }, func(f *api.Func) { f.Blocks = nil }, func(f *api.Func) { f.Blocks[1] = nil }, func(f *api.Func) { f.Blocks[0] = make([]api.Ins, 401) },
		func(f *api.Func) { f.Blocks[0][0].Kind = math.MinInt }, func(f *api.Func) { f.Blocks[0][0].Kind = 10 }, func(f *api.Func) { f.Blocks[0][0].D = math.MaxInt }, func(f *api.Func) { f.Blocks[2][1].D = -2 },
		func(f *api.Func) { f.Blocks[1][2].B = -1 }, func(f *api.Func) { f.Blocks[1][3].T = 0 }, func(f *api.Func) { f.Blocks[1][3].F = 3 }, func(f *api.Func) { f.Blocks[0] = f.Blocks[0][:2] },
		func(f *api.Func) { f.Blocks[1][0].Args = nil }, func(f *api.Func) { f.Blocks[2][1].Args = make([]int, 1<<16) },
	} {
		f := sum(t)
		turn(&f)
		_, _, want := virok.Check(x, f)
		if _, err := virrun.Run(x, f, api.World{Fuel: 50}); err != want || want == api.OK {
			t.Errorf("%d: error %d, want %d", i, err, want)
		}
	}
}

func TestP1102Params(t *testing.T) {
	x := machine(t, 4)
	f := funcOf(t, "0 2 6 7", "store 0 2;store 6 7;ret 0")
	for _, y := range []struct {
		args []int
		want string
	}{
		{nil, "1[0 0], 1[0 0], end 0 0"}, {[]int{5}, "1[5 0], 1[0 0], end 0 5"}, {[]int{5, 6, 7}, "1[5 6], 1[7 0], end 0 5"}, {[]int{5, 6, 7, 1}, "1[5 6], 1[7 1], end 0 5"},
		{[]int{5, 6, 7, 1, 9, 9}, "1[5 6], 1[7 1], end 0 5"}, {[]int{-1, -1, -1, -1}, "1[-1 15], 1[255 1], end 0 -1"}, {[]int{math.MinInt, 16, 256, 2}, "1[-9223372036854775808 0], 1[0 0], end 0 -9223372036854775808"},
		{[]int{1 << 40, 1<<40 + 3, 1<<40 - 1, math.MaxInt}, "1[1099511627776 3], 1[255 1], end 0 1099511627776"},
		{many(1<<16, 1), "1[1 1], 1[1 1], end 0 1"},
	} {
		isTold(t, fmt.Sprintf("%.40v", y.args), run(t, x, f, api.World{Args: y.args, Fuel: 9}), y.want)
	}
	// In the order of the Params, not of the registers.
	isTold(t, "turned", run(t, x, funcOf(t, "1 3 6", "store 1 3;store 3 6;ret 1"), api.World{Args: []int{5, 6, 7}, Fuel: 9}), "1[5 6], 1[6 7], end 0 5")
	isTold(t, "no Params", run(t, x, funcOf(t, "", "0 = const 2;ret 0"), api.World{Args: []int{5, 6}, Fuel: 9}), "end 0 2")
	// A Param is a register like others.
	isTold(t, "written", run(t, x, funcOf(t, "0", "0 = const 2;ret 0"), api.World{Args: []int{5}, Fuel: 9}), "end 0 2")
}

func TestP1102Consts(t *testing.T) {
	x := machine(t, 63)
	for _, n := range []int{0, 1, -1, 255, 256, -256, 1 << 32, math.MaxInt, math.MinInt} {
		f := funcOf(t, "", "0 = const 0;2 = const 0;6 = const 0;7 = const 0;store 0 2;store 6 7;ret 0")
		for i := range 4 {
			f.Blocks[0][i].N = n
		}
		isTold(t, fmt.Sprint(n), run(t, x, f, api.World{Fuel: 9}), fmt.Sprintf("1[%d %d], 1[%d %d], end 0 %d", n, n&math.MaxInt, n&255, n&1, n))
	}
}

func TestP1102Copies(t *testing.T) {
	x := machine(t, 8)
	f := funcOf(t, "0 2", "1 = copy 0;0 = const 3;0 = copy 0;3 = copy 2;store 0 3;ret 1")
	isTold(t, "copies", run(t, x, f, api.World{Args: []int{-9, 300}, Fuel: 9}), "1[3 44], end 0 -9")
}

// TestP1102Operations: each operation is done at the width of its classes.
func TestP1102Operations(t *testing.T) {
	texts := map[string]string{"shl": "2 = shl 2 4", "shr": "2 = shr 2 4", "lt": "5 = lt 2 4", "eq": "5 = eq 2 3", "not": "5 = not 2"}
	for _, name := range slices.Concat(binary, unary) {
		ins := texts[name]
		if ins == "" {
			ins = "2 = " + name + " 2 3"
		}
		f := funcOf(t, "1", "2 = const 0;3 = const 0;4 = const 0;5 = const 0;"+ins+";store 2 5;ret 1")
		for _, width := range []int{1, 2, 5, 8, 31, 32, 63, 64} {
			x := machine(t, width)
			for _, a := range []int{0, 1, 2, 7, 255, -1, math.MinInt, 1 << 40} {
				for _, b := range []int{0, 1, 3, 64, 200, -1, math.MaxInt} {
					f.Blocks[0][0].N, f.Blocks[0][1].N, f.Blocks[0][2].N = a, b, b
					isTold(t, fmt.Sprint(name, " ", width, " ", a, " ", b), run(t, x, f, api.World{Args: []int{9}, Fuel: 7}), operated(ins, name, width, a, b))
				}
			}
		}
	}
}

// operated is what is told of a run with that operation: registers 2 and 5 are stored behind it, of which it writes one.
func operated(ins, name string, width, a, b int) string {
	v := modelDo(name, width, []int{a, b}[:virrun.Arity(name)])
	if !v.ok {
		return "end 1 0"
	}
	if ins[0] == '2' {
		return fmt.Sprintf("1[%d 0], end 0 9", v.value)
	}
	return fmt.Sprintf("1[%d %d], end 0 9", modelDo("or", width, []int{a, 0}).value, v.value)
}

func TestP1102Memory(t *testing.T) {
	x := machine(t, 16)
	for _, y := range []struct {
		what, block string
		args        []int
		mem         []api.Cell
		want        string
	}{
		{"nothing there", "1 = load 0;ret 1", []int{5}, nil, "end 0 0"},
		{"a cell", "1 = load 0;ret 1", []int{5}, cells(5, -7, 6, 8), "end 0 -7"},
		{"the last of two", "1 = load 0;ret 1", []int{5}, cells(5, 1, 4, 3, 5, 2, 6, 4), "end 0 2"},
		{"the last of three is 0", "1 = load 0;ret 1", []int{5}, cells(5, 1, 5, 2, 5, 0), "end 0 0"},
		{"below 0", "1 = load 0;ret 1", []int{-5}, cells(-5, 3, 5, 4), "end 0 3"},
		{"the least", "1 = load 0;ret 1", []int{math.MinInt}, cells(math.MinInt, math.MaxInt), "end 0 9223372036854775807"},
		{"cut", "3 = load 0;6 = load 0;7 = load 0;store 3 6;store 7 0;ret 0", []int{5}, cells(5, 0x12345), "1[9029 69], 1[1 5], end 0 5"},
		{"cut below 0", "3 = load 0;6 = load 0;store 3 6;ret 0", []int{5}, cells(5, -2), "1[65534 254], end 0 5"},
		{"at a narrow address", "6 = const -1;1 = load 6;ret 1", []int{5}, cells(-1, 3, 255, 4), "end 0 4"},
		{"a narrow address below 0", "6 = const 5;1 = load 6;ret 1", []int{5}, cells(-251, 3, 261, 4), "end 0 0"},
		{"stored", "store 0 0;1 = load 0;ret 1", []int{5}, nil, "1[5 5], end 0 5"},
		{"stored over a cell", "store 0 0;1 = load 0;ret 1", []int{5}, cells(5, 8), "1[5 5], end 0 5"},
		{"stored twice", "1 = const 4;store 0 0;store 0 1;1 = load 0;ret 1", []int{5}, cells(5, 8), "1[5 5], 1[5 4], end 0 4"},
		{"stored elsewhere", "1 = const 4;store 1 0;1 = load 0;ret 1", []int{5}, cells(5, 8), "1[4 5], end 0 8"},
		{"a narrow one stored", "6 = const -1;store 0 6;1 = load 0;ret 1", []int{5}, nil, "1[5 255], end 0 255"},
		{"a wide one stored, a narrow one loaded", "1 = const -1;store 0 1;6 = load 0;1 = load 0;store 6 1;ret 1", []int{5}, nil, "1[5 -1], 1[255 -1], end 0 -1"},
		{"where the address was", "0 = load 0;ret 0", []int{5}, cells(5, 6, 6, 7), "end 0 6"},
	} {
		isTold(t, y.what, run(t, x, funcOf(t, "0", y.block), api.World{Args: y.args, Mem: y.mem, Fuel: 20}), y.want)
	}
}

func TestP1102Calls(t *testing.T) {
	x := machine(t, 4)
	for _, y := range []struct {
		what, block string
		oracle      []int
		want        string
	}{
		{"nothing to answer", "1 = call h;ret 1", nil, "2h[], end 0 0"},
		{"answered", "1 = call h;ret 1", []int{-5, 6}, "2h[], end 0 -5"},
		{"in order", "0 = call h;1 = call h 0;0 = call h 1;1 = call h 0;ret 1", []int{5, 6, 7}, "2h[], 2h[5], 2h[6], 2h[7], end 0 0"},
		{"not wanted", "call h;0 = call k;call h;1 = call k;store 0 1;ret 1", []int{5, 6, 7}, "2h[], 2k[], 2h[], 2k[], 1[5 6], end 0 6"},
		{"never wanted", "0 = const 9;call h;call h;ret 0", []int{5, 6, 7}, "2h[], 2h[], end 0 9"},
		{"arguments", "0 = const -3;2 = const -3;6 = const -3;7 = const -3;call h 0 2 6 7;call g 0 2;ret 0", nil, "2h[-3 13 253 1], 2g[-3 13], end 0 -3"},
		{"an argument is answered", "0 = const 9;0 = call h 0;ret 0", []int{5}, "2h[9], end 0 5"},
		{"an argument twice over", "0 = const 9;call add 0;0 = const 8;call add 0;ret 0", nil, "2add[9], 2add[8], end 0 8"},
		{"the function itself", "0 = call f;ret 0", []int{3}, "2f[], end 0 3"},
		{"calls, stores", "0 = const 9;call h 0;store 0 0;call h 0;ret 0", nil, "2h[9], 1[9 9], 2h[9], end 0 9"},
	} {
		isTold(t, y.what, run(t, x, funcOf(t, "", y.block), api.World{Oracle: y.oracle, Fuel: 20}), y.want)
	}
	// What is answered is cut to its register's width.
	narrow := tableOf(t, "machine m { reg a 8 reg b 8 class k = a b result a slots 0 }")
	f, _, _ := vir.Read("func f\nregs k k\nparams\nresult k\nblock\n  0 = call h\n  1 = call h\n  store 0 1\n  ret 1\nend\n")
	isTold(t, "cut", run(t, narrow, f, api.World{Oracle: []int{-1, 0x1234}, Fuel: 9}), "2h[], 2h[], 1[255 52], end 0 52")
}

func TestP1102Flow(t *testing.T) {
	x := machine(t, 8)
	for _, y := range []struct {
		what   string
		blocks []string
		arg    int
		want   string
	}{
		{"to T", []string{"br 0 1 2", "0 = const 10;ret 0", "0 = const 20;ret 0"}, 1, "end 0 10"},
		{"to F", []string{"br 0 1 2", "0 = const 10;ret 0", "0 = const 20;ret 0"}, 0, "end 0 20"},
		{"to T, below 0", []string{"br 0 1 2", "0 = const 10;ret 0", "0 = const 20;ret 0"}, -1, "end 0 10"},
		{"to T, the highest bit", []string{"br 0 1 2", "0 = const 10;ret 0", "0 = const 20;ret 0"}, math.MinInt, "end 0 10"},
		{"to F, cut to 0", []string{"6 = const 256;br 6 1 2", "0 = const 10;ret 0", "0 = const 20;ret 0"}, 1, "end 0 20"},
		{"to T, cut", []string{"7 = const 3;br 7 1 2", "0 = const 10;ret 0", "0 = const 20;ret 0"}, 1, "end 0 10"},
		{"both one", []string{"br 0 1 1", "ret 0"}, 0, "end 0 0"},
		{"past a block", []string{"jump 2", "0 = const 10;ret 0", "ret 0"}, 5, "end 0 5"},
		{"back", []string{"jump 2", "ret 0", "0 = const 7;jump 1"}, 5, "end 0 7"},
		{"round", []string{"jump 1", "1 = const 1;2 = const 1;3 = load 0;0 = load 0;br 0 1 2", "store 0 1;ret 1"}, 5, "1[0 1], end 0 1"},
		{"not reached", []string{"ret 0", "1 = copy 0;jump 1"}, 5, "end 0 5"},
	} {
		w := api.World{Args: []int{y.arg}, Mem: cells(5, 4, 4, 3), Fuel: 50}
		isTold(t, y.what, run(t, x, funcOf(t, "0", y.blocks...), w), y.want)
	}
}

func TestP1102Traps(t *testing.T) {
	x := machine(t, 8)
	for _, y := range []struct {
		what, block, want string
	}{
		{"div", "2 = div 2 3;ret 0", "end 1 0"},
		{"rem", "2 = rem 2 3;ret 0", "end 1 0"},
		{"cut to 0", "3 = const 256;2 = rem 2 3;ret 0", "end 1 0"},
		{"0 by 0", "2 = div 3 3;ret 0", "end 1 0"},
		{"not by 0", "2 = div 3 2;store 0 2;ret 0", "1[7 0], end 0 7"},
		{"behind events", "store 0 0;call h 0;2 = div 2 3;store 0 0;ret 0", "1[7 7], 2h[7], end 1 0"},
		{"behind the return", "ret 0", "end 0 7"},
	} {
		isTold(t, y.what, run(t, x, funcOf(t, "0", "2 = const 5;3 = const 0;"+y.block), api.World{Args: []int{7}, Fuel: 20}), y.want)
	}
	// The step that traps is begun with the last of the fuel, and is not with none.
	f := funcOf(t, "0", "2 = const 5;3 = const 0;store 0 0;2 = div 2 3;ret 0")
	for fuel, want := range []string{"end 3 0", "end 3 0", "end 3 0", "1[7 7], end 3 0", "1[7 7], end 1 0", "1[7 7], end 1 0"} {
		isTold(t, fmt.Sprint("fuel ", fuel), run(t, x, f, api.World{Args: []int{7}, Fuel: fuel}), want)
	}
}

// TestP1102Fuel: with each fuel a run is the beginning of the whole one.
func TestP1102Fuel(t *testing.T) {
	x := shippedTable(t, "riscv")
	w := api.World{Args: []int{3}, Oracle: []int{50}}
	// How many steps there are ahead of each event, itself too.
	at := []int{6, 10, 14, 17, 18}
	whole := []string{"1[2 3]", "1[1 5]", "1[0 6]", "2f[5 6]", "2g[]"}
	for fuel := range 25 {
		w.Fuel = fuel
		var l []string
		for i, n := range at {
			if n <= fuel {
				l = append(l, whole[i])
			}
		}
		last := "end 3 0"
		if fuel >= 20 {
			last = "end 0 50"
		}
		isTold(t, fmt.Sprint("fuel ", fuel), run(t, x, sum(t), w), strings.Join(append(l, last), ", "))
	}
	for fuel, want := range []string{"end 3 0", "end 0 7", "end 0 7"} {
		isTold(t, fmt.Sprint("fuel ", fuel), run(t, x, funcOfG(t, "ret 0"), api.World{Args: []int{7}, Fuel: fuel}), want)
	}
}

// funcOfG is a function over g alone, of a Param 0.
func funcOfG(t testing.TB, blocks ...string) api.Func {
	t.Helper()
	f := funcOf(t, "0", blocks...)
	f.Vregs = many(8, "g")
	return f
}

// TestP1102AllFuel: as many steps as can be, with an event in each second one.
func TestP1102AllFuel(t *testing.T) {
	x := shippedTable(t, "arm")
	r := run(t, x, funcOfG(t, "1 = const 1;jump 1", "0 = add 0 1;store 1 0;jump 1"), api.World{Fuel: api.MaxFuel})
	if n := (api.MaxFuel - 2 + 1) / 3; r.End != api.Spent || r.Result != 0 || len(r.Events) != n || r.Events[n-1].Args[1] != n {
		t.Errorf("end %d, %d events", r.End, len(r.Events))
	}
	r = run(t, x, funcOfG(t, "jump 1", "jump 1"), api.World{Fuel: api.MaxFuel})
	isTold(t, "jumps", r, "end 3 0")
	// The last step of all that can be returns.
	f := funcOfG(t, "1 = const 1;jump 1", "0 = sub 0 1;br 0 1 2", "ret 1")
	steps := (api.MaxFuel - 3) / 2
	isTold(t, "the last step", run(t, x, f, api.World{Args: []int{steps}, Fuel: 2*steps + 3}), "end 0 1")
	isTold(t, "one too many", run(t, x, f, api.World{Args: []int{steps}, Fuel: 2*steps + 2}), "end 3 0")
}

// TestP1102GreatMemory: cells are found whatever there are.
func TestP1102GreatMemory(t *testing.T) {
	x := shippedTable(t, "arm")
	var mem []api.Cell
	for i := range 1 << 18 {
		mem = append(mem, api.Cell{Addr: i % (1 << 17), Value: i})
	}
	f := funcOfG(t, "1 = const 1;2 = const 0;jump 1", "0 = sub 0 1;3 = load 0;2 = xor 2 3;br 0 1 2", "ret 2")
	isTold(t, "cells", run(t, x, f, api.World{Args: []int{1 << 17}, Mem: mem, Fuel: api.MaxFuel}), "end 0 0")
	isTold(t, "less cells", run(t, x, f, api.World{Args: []int{1<<17 - 1}, Mem: mem, Fuel: api.MaxFuel}), fmt.Sprint("end 0 ", 1<<18-1))
}

// TestP1102AgainstModel: functions that are taken, on worlds.
func TestP1102AgainstModel(t *testing.T) {
	s := steps(1102)
	ends, events := map[int]int{}, 0
	var tables []*table.Table
	for _, width := range []int{1, 3, 8, 33, 63, 64} {
		tables = append(tables, machine(t, width))
	}
	for _, name := range shipped.Names() {
		tables = append(tables, shippedTable(t, name))
	}
	for _, x := range tables {
		g := generator{steps: &s, m: x.Machine()}
		for range 1500 {
			f, w := g.function(), g.world()
			want := modelRun(g.m, f, w)
			got, err := virrun.Run(x, f, w)
			if err != api.OK || told(got) != told(want) || len(got.Regs) != 0 {
				t.Fatalf("error %d, %s, want %s: %+v, %+v", err, told(got), told(want), f, w)
			}
			ends[want.End]++
			events += len(want.Events)
		}
	}
	for end, least := range map[int]int{api.Returned: 2000, api.Trapped: 500, api.Spent: 2000} {
		if ends[end] < least {
			t.Errorf("end %d: %d times, want %d", end, ends[end], least)
		}
	}
	if events < 20000 || ends[api.Undefined] > 0 {
		t.Errorf("%d events, %d undefined", events, ends[api.Undefined])
	}
}

// TestP1102NotLookedAt: what a kind does not name, what of the world is machine code's, may be anything.
func TestP1102NotLookedAt(t *testing.T) {
	x := shippedTable(t, "riscv")
	named := map[int]string{api.KConst: "DN", api.KCopy: "DA", api.KOp: "Dna", api.KLoad: "DA", api.KStore: "AB", api.KCall: "Dna", api.KBr: "ATF", api.KJump: "T", api.KRet: "A"}
	want := "1[2 3], 1[1 5], 1[0 6], 2f[5 6], 2g[], end 0 50"
	for _, n := range []int{-1, 1, 3, 1000, math.MaxInt, math.MinInt} {
		f := sum(t)
		for _, block := range f.Blocks {
			for i := range block {
				y := &block[i]
				for part, set := range map[string]func(){
					"D": func() { y.D = n }, "A": func() { y.A = n }, "B": func() { y.B = n }, "N": func() { y.N = n }, "T": func() { y.T = n }, "F": func() { y.F = n },
					"n": func() { y.Name = "no name" }, "a": func() { y.Args = many(30, n) },
				} {
					if !strings.Contains(named[y.Kind], part) {
						set()
					}
				}
			}
		}
		isTold(t, fmt.Sprint(n), run(t, x, f, api.World{Args: []int{3}, Oracle: []int{50}, Fuel: 100, Init: many(50, n), Junk: n}), want)
	}
}

// roomy is sum and a world, with room behind each list, in which something stands.
func roomy(t testing.TB) (api.Func, api.World) {
	f := sum(t)
	f.Vregs = append(f.Vregs, "x", "y")[:4]
	f.Params = append(f.Params, 7, 8)[:1]
	for i, b := range f.Blocks {
		for k, x := range b {
			b[k].Args = append(x.Args, 7, 8)[:len(x.Args)]
		}
		f.Blocks[i] = append(b, api.Ins{Kind: 7}, api.Ins{Kind: 8})[:len(b)]
	}
	f.Blocks = append(f.Blocks, nil, []api.Ins{{Kind: 9}})[:3]
	w := api.World{Args: []int{3, 9}[:1], Mem: cells(0, 4, 1, 7, 2, 3, 9, 9)[:3], Oracle: []int{50, 60, 70}[:1], Fuel: 100, Init: []int{1, 2}[:1]}
	return f, w
}

// whole is all of f and w, with the room behind each list.
func whole(f api.Func, w api.World) []any {
	l := []any{f.Vregs[:6], f.Params[:3], w.Args[:2], w.Mem[:4], w.Oracle[:3], w.Init[:2], f.Name, f.Result, w.Fuel, w.Junk}
	for _, b := range f.Blocks[:3] {
		for _, x := range b[:len(b)+2] {
			l = append(l, x.Args[:cap(x.Args)])
			x.Args = nil
			l = append(l, x)
		}
	}
	return append(l, f.Blocks[3:5])
}

func TestP1103ArgumentsAreNotChanged(t *testing.T) {
	x := shippedTable(t, "riscv")
	before := x.Machine()
	f, w := roomy(t)
	for range 3 {
		isTold(t, "roomy", run(t, x, f, w), "1[2 3], 1[1 5], 1[0 6], 2f[5 6], 2g[], end 0 50")
		g, v := roomy(t)
		if !reflect.DeepEqual(whole(f, w), whole(g, v)) {
			t.Fatal("what was handed in is changed")
		}
	}
	if !reflect.DeepEqual(before, x.Machine()) {
		t.Error("the table is changed")
	}
}

// TestP1103NewMemory: what is answered has nothing in common with what was handed in, nor its lists with each other.
func TestP1103NewMemory(t *testing.T) {
	x := shippedTable(t, "riscv")
	f, w := roomy(t)
	r := run(t, x, f, w)
	want := told(r)
	for i, b := range f.Blocks {
		for k := range b {
			for n := range b[k].Args {
				b[k].Args[n] = 77
			}
			b[k] = api.Ins{}
		}
		f.Blocks[i] = nil
	}
	f.Vregs[0], f.Params[0], w.Args[0], w.Mem[0], w.Oracle[0], w.Init[0] = "z", 9, 77, api.Cell{Addr: 77}, 77, 77
	isTold(t, "behind a change", r, want)
	for i, e := range r.Events {
		for k := range e.Args {
			e.Args[k] = -100 - i
		}
		_ = append(e.Args, 55, 55, 55)
	}
	isTold(t, "written over", r, "1[-100 -100], 1[-101 -101], 1[-102 -102], 2f[-103 -103], 2g[], end 0 50")
	f, w = roomy(t)
	isTold(t, "again", run(t, x, f, w), want)
}

func TestP1103SameAnswers(t *testing.T) {
	x := shippedTable(t, "riscv")
	s := steps(1103)
	g := generator{steps: &s, m: x.Machine()}
	var funcs []api.Func
	var worlds []api.World
	var want []string
	for range 50 {
		f, w := g.function(), g.world()
		funcs, worlds, want = append(funcs, f), append(worlds, w), append(want, told(run(t, x, f, w)))
	}
	var wg sync.WaitGroup
	for i := range 8 {
		wg.Go(func() {
			for n := range 400 {
				k := (n*7 + i) % len(funcs)
				r, err := virrun.Run(x, funcs[k], worlds[k])
				if err != api.OK || told(r) != want[k] {
					t.Error("another answer")
					return
				}
			}
		})
	}
	wg.Wait()
}
