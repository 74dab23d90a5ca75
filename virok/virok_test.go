package virok_test

import (
	"fmt"
	"math"
	"reflect"
	"slices"
	"strings"
	"sync"
	"testing"

	"pigeonhole/api"
	"pigeonhole/parser"
	"pigeonhole/shipped"
	"pigeonhole/table"
	"pigeonhole/vir"
	"pigeonhole/virok"
)

// machineText is a machine whose classes differ: k has the registers of g, n some of them, x and y narrow ones. The
// arguments' registers are in g k, y, g k n; the result's in g k.
const machineText = `
machine m {
  reg a 64 { reg al 8 at 0 reg ah 8 at 8 }
  reg b 64 { reg bl 8 at 0 }
  reg c 64
  reg d 64
  class g = a b c d
  class k = a b c d
  class n = c d
  class x = al ah
  class y = ah bl
  op add g = g g tie 0
  op sub k = g n
  op not x = x
  op lt n = k k
  op div g:a = g:a g tie 0 clob d
  args a bl c
  result a
  saved d
  slots 9
}`

// small is a function that is taken, with each kind of instruction.
const small = `func f
regs g k n x y g
params 0 4 2
result g
block
  5 = const -7
  5 = add 0 5
  3 = const 1
  3 = not 3
  1 = sub 5 2
  br 3 1 2
block
  2 = lt 1 1
  5 = load 3
  store 4 2
  jump 2
block
  0 = copy 5
  5 = call h 0 4 2
  call div 1
  1 = call h
  ret 0
end
`

func tableOf(t testing.TB, text string) *table.Table {
	t.Helper()
	m, line, col, err := parser.Parse(text)
	if err != api.OK {
		t.Fatalf("the description: error %d at %d %d", err, line, col)
	}
	x, err := table.Make(m)
	if err != api.OK {
		t.Fatalf("the description: error %d", err)
	}
	return x
}

func funcOf(t testing.TB, text string) api.Func {
	t.Helper()
	f, line, err := vir.Read(text)
	if err != api.OK {
		t.Fatalf("the function: error %d at %d", err, line)
	}
	return f
}

// answer is what Check answers.
type answer struct {
	block, ins int
	err        api.Errno
}

var fine = answer{}

func check(x *table.Table, f api.Func) answer {
	b, i, err := virok.Check(x, f)
	return answer{b, i, err}
}

// is asks Check.
func is(t *testing.T, x *table.Table, what string, f api.Func, want answer) {
	t.Helper()
	if got := check(x, f); got != want {
		t.Errorf("%s: %v, want %v", what, got, want)
	}
}

func many[T any](n int, x T) []T { return slices.Repeat([]T{x}, n) }

// odd is numbers that are none of n things.
func odd(n int) []int {
	return []int{-1, -2, -64, n, n + 1, n + 64, 65535, 65536, 1 << 31, 1 << 32, 1<<32 + 1, -1 << 32, math.MaxInt, math.MinInt, math.MinInt + 1}
}

func TestP1001Ordinary(t *testing.T) {
	is(t, tableOf(t, machineText), "small", funcOf(t, small), fine)
	loop := `func gcd
regs g g g
params 0 1
result g
block
  jump 1
block
  br 1 2 3
block
  2 = rem 0 1
  0 = copy 1
  1 = copy 2
  jump 1
block
  ret 0
end
`
	for _, name := range shipped.Names() {
		s, _ := shipped.Text(name)
		is(t, tableOf(t, s), name, funcOf(t, loop), fine)
		is(t, tableOf(t, s), name, funcOf(t, "func one\nregs g\nparams 0\nresult g\nblock\n  ret 0\nend\n"), fine)
	}
}

func TestP1001NoTable(t *testing.T) {
	is(t, nil, "nil", funcOf(t, small), answer{0, 0, api.ErrArg})
	is(t, nil, "nil and nothing", api.Func{}, answer{0, 0, api.ErrArg})
	is(t, nil, "nil and too much", api.Func{Vregs: many(501, "")}, answer{0, 0, api.ErrArg})
	// The table of nothing has no class.
	var none table.Table
	is(t, &none, "none", funcOf(t, small), answer{0, 0, api.ErrVreg})
	is(t, &none, "none", api.Func{Name: "f"}, answer{0, 0, api.ErrVreg})
	is(t, &none, "none", api.Func{}, answer{0, 0, api.ErrName})
}

// fault is something that is wrong of small, and what is told of it.
type fault struct {
	what string
	turn func(f *api.Func)
	want answer
}

// ins is small's instruction of block b.
func ins(f *api.Func, b, i int) *api.Ins { return &f.Blocks[b][i] }

// faults is what can be wrong, in the order in which it is looked for. Each can stand beside those behind it.
func faults() []fault {
	return []fault{
		{"501 Vregs", func(f *api.Func) { f.Vregs = append(f.Vregs, many(495, "g")...) }, answer{0, 0, api.ErrLong}},
		{"201 blocks", func(f *api.Func) { f.Blocks = append(f.Blocks, many(201, []api.Ins{{Kind: api.KJump, T: 1}})...) }, answer{0, 0, api.ErrLong}},
		{"no name", func(f *api.Func) { f.Name = "" }, answer{0, 0, api.ErrName}},
		{"no class", func(f *api.Func) { f.Vregs = append(f.Vregs, "z") }, answer{0, 0, api.ErrVreg}},
		{"four Params", func(f *api.Func) { f.Params = append(f.Params, 1) }, answer{0, 0, api.ErrArg}},
		{"a Param that is none", func(f *api.Func) { f.Params[2] = 70 }, answer{0, 0, api.ErrVreg}},
		{"a Param twice", func(f *api.Func) { f.Params[2] = f.Params[0] }, answer{0, 0, api.ErrVreg}},
		{"a Param elsewhere", func(f *api.Func) { f.Params[0] = 3 }, answer{0, 0, api.ErrReg}},
		{"a Result of no class", func(f *api.Func) { f.Result = "al" }, answer{0, 0, api.ErrVreg}},
		{"a Result elsewhere", func(f *api.Func) { f.Result = "n" }, answer{0, 0, api.ErrReg}},
		{"no block", func(f *api.Func) { f.Blocks = nil }, answer{0, 0, api.ErrBlock}},
		{"no instruction", func(f *api.Func) { f.Blocks[0] = nil }, answer{0, 0, api.ErrBlock}},
		{"401 instructions", func(f *api.Func) { f.Blocks[0] = append(many(395, f.Blocks[0][0]), f.Blocks[0]...) }, answer{0, 0, api.ErrBlock}},
		{"a kind that is none", func(f *api.Func) { ins(f, 0, 0).Kind = 10 }, answer{0, 0, api.ErrIns}},
		{"an operation's register", func(f *api.Func) { ins(f, 0, 1).Args[1] = 6 }, answer{0, 1, api.ErrVreg}},
		{"an operation that is none", func(f *api.Func) { ins(f, 0, 3).Name = "mul" }, answer{0, 3, api.ErrIns}},
		{"an operand's class", func(f *api.Func) { ins(f, 0, 4).Args[1] = 0 }, answer{0, 4, api.ErrReg}},
		{"a block that is none", func(f *api.Func) { ins(f, 0, 5).F = 3 }, answer{0, 5, api.ErrBlock}},
		{"no instruction of block 1", func(f *api.Func) { f.Blocks[1] = nil }, answer{1, 0, api.ErrBlock}},
		{"too many Args of a call", func(f *api.Func) { ins(f, 2, 1).Args = many(4, 0) }, answer{2, 1, api.ErrIns}},
		{"an argument elsewhere", func(f *api.Func) { ins(f, 2, 2).Args[0] = 2 }, answer{2, 2, api.ErrReg}},
		{"another result", func(f *api.Func) { ins(f, 2, 4).A = 1 }, answer{2, 4, api.ErrReg}},
		{"not written", func(f *api.Func) { ins(f, 0, 2).D = 1; ins(f, 0, 2).Kind = api.KConst; ins(f, 0, 3).D = 3 }, answer{0, 3, api.ErrVreg}},
	}
}

func TestP1001EachFault(t *testing.T) {
	x := tableOf(t, machineText)
	for _, y := range faults() {
		f := funcOf(t, small)
		y.turn(&f)
		is(t, x, y.what, f, y.want)
	}
}

// TestP1001Order: of two faults the first is told.
func TestP1001Order(t *testing.T) {
	x := tableOf(t, machineText)
	l := faults()
	asked := 0
	for i, first := range l {
		for _, second := range l[i+1:] {
			f := funcOf(t, small)
			if !both(&f, first, second) {
				continue
			}
			asked++
			is(t, x, first.what+", "+second.what, f, first.want)
		}
	}
	if asked < 200 {
		t.Errorf("%d pairs: too few", asked)
	}
}

// both turns f twice, the later fault first, and tells whether the two can stand beside one another.
func both(f *api.Func, first, second fault) (ok bool) {
	defer func() {
		if recover() != nil { // what the one would turn the other has taken away
			ok = false
		}
	}()
	second.turn(f)
	first.turn(f)
	return true
}

func TestP1001Names(t *testing.T) {
	x := tableOf(t, machineText)
	good := []string{"f", "_", "F9", "machine", "g", "a", "add", "const", strings.Repeat("n", 20)}
	bad := []string{"", " ", "9", "9f", "f ", " f", "f g", "f\n", "f.g", "é", "f\x00", "#f", "=", strings.Repeat("n", 21), strings.Repeat("n", 70000)}
	for _, s := range good {
		f := funcOf(t, small)
		f.Name, ins(&f, 2, 2).Name = s, s
		is(t, x, s, f, fine)
	}
	for _, s := range bad {
		f := funcOf(t, small)
		f.Name = s
		is(t, x, "function "+s, f, answer{0, 0, api.ErrName})
		f = funcOf(t, small)
		ins(&f, 2, 2).Name = s
		is(t, x, "call "+s, f, answer{2, 2, api.ErrIns})
	}
}

func TestP1001HowMany(t *testing.T) {
	x := tableOf(t, machineText)
	for n, want := range map[int]answer{499: fine, 500: fine, 501: {0, 0, api.ErrLong}, 9000: {0, 0, api.ErrLong}} {
		f := funcOf(t, small)
		f.Vregs = append(f.Vregs, many(n-6, "g")...)
		is(t, x, fmt.Sprint(n, " Vregs"), f, want)
		f.Name = ""
		if want == fine {
			want.err = api.ErrName
		}
		is(t, x, fmt.Sprint(n, " Vregs, no name"), f, want)
	}
	for n, want := range map[int]answer{199: fine, 200: fine, 201: {0, 0, api.ErrLong}, 9000: {0, 0, api.ErrLong}} {
		f := funcOf(t, small)
		f.Blocks = append(f.Blocks, many(n-3, []api.Ins{{Kind: api.KJump, T: n - 1}})...)
		is(t, x, fmt.Sprint(n, " blocks"), f, want)
	}
	for n, want := range map[int]answer{0: {1, 0, api.ErrBlock}, 1: fine, 399: fine, 400: fine, 401: {1, 0, api.ErrBlock}, 9000: {1, 0, api.ErrBlock}} {
		f := funcOf(t, small)
		f.Blocks[1] = nil
		if n > 0 {
			f.Blocks[1] = append(many(n-1, api.Ins{Kind: api.KConst}), api.Ins{Kind: api.KJump, T: 2})
		}
		is(t, x, fmt.Sprint(n, " instructions"), f, want)
	}
	for n, want := range map[int]answer{0: fine, 1: fine, 2: fine, 3: fine, 4: {0, 0, api.ErrArg}, 17: {0, 0, api.ErrArg}, 9000: {0, 0, api.ErrArg}} {
		f := api.Func{Name: "f", Vregs: []string{"g", "y", "n"}, Result: "g", Blocks: [][]api.Ins{{{Kind: api.KConst}, {Kind: api.KRet}}}}
		f.Params = slices.Concat([]int{0, 1, 2}[:min(n, 3)], many(max(n-3, 0), -1))
		is(t, x, fmt.Sprint(n, " Params"), f, want)
		f = funcOf(t, small)
		ins(&f, 2, 1).Args = slices.Concat([]int{0, 4, 2}[:min(n, 3)], many(max(n-3, 0), -1))
		if want != fine {
			want = answer{2, 1, api.ErrIns}
		}
		is(t, x, fmt.Sprint(n, " Args"), f, want)
	}
}

// TestP1001Classes: a virtual register's class, by each name that may stand there.
func TestP1001Classes(t *testing.T) {
	x := tableOf(t, machineText)
	for _, s := range []string{"", "z", "a", "add", "gg", "G", " g", "g ", "g\x00", strings.Repeat("g", 70000)} {
		f := funcOf(t, small)
		f.Vregs[5] = s
		is(t, x, "class "+s, f, answer{0, 0, api.ErrVreg})
		f = funcOf(t, small)
		f.Result = s
		is(t, x, "result "+s, f, answer{0, 0, api.ErrVreg})
	}
	// The first of several is not told ahead of what is wrong of another point.
	f := funcOf(t, small)
	f.Vregs[0], f.Params, f.Result = "z", many(9, 9), ""
	is(t, x, "class, Params, Result", f, answer{0, 0, api.ErrVreg})
}

// TestP1001Params: a Param of each class at each place; what the Params are ahead of where they can be.
func TestP1001Params(t *testing.T) {
	x := tableOf(t, machineText)
	may := []string{"gk", "y", "gkn"}
	classes := []string{"g", "k", "n", "x", "y"}
	for place, l := range may {
		for _, class := range classes {
			f := api.Func{Name: "f", Vregs: []string{"g", "y", "g"}, Params: []int{0, 1, 2}, Result: "g", Blocks: [][]api.Ins{{{Kind: api.KConst, D: 0}, {Kind: api.KRet}}}}
			if place == 0 {
				f.Params[0], f.Vregs = 3, append(f.Vregs, class)
			}
			f.Vregs[f.Params[place]] = class
			want := fine
			if !strings.Contains(l, class) {
				want.err = api.ErrReg
			}
			is(t, x, fmt.Sprint("Param ", place, " of ", class), f, want)
		}
	}
	for place := range 3 {
		for _, n := range odd(6) {
			f := funcOf(t, small)
			f.Params[place] = n
			is(t, x, fmt.Sprint("Param ", n), f, answer{0, 0, api.ErrVreg})
		}
	}
	for _, y := range []struct {
		params []int
		err    api.Errno
	}{
		{nil, api.OK}, {[]int{1}, api.OK}, {[]int{5, 4}, api.OK}, {[]int{1, 4, 0}, api.OK},
		{[]int{0, 0}, api.ErrVreg}, {[]int{0, 4, 0}, api.ErrVreg}, {[]int{0, 4, 4}, api.ErrVreg},
		{[]int{3, 0, 6}, api.ErrVreg}, {[]int{3, 3}, api.ErrVreg}, {[]int{3, 4, 2}, api.ErrReg}, {[]int{0, 3}, api.ErrReg}, {[]int{0, 4, 3}, api.ErrReg},
		{[]int{6, 6, 6, 6}, api.ErrArg}, {[]int{3, 3, 3, 0}, api.ErrArg},
	} {
		f := api.Func{Name: "f", Vregs: []string{"g", "k", "n", "x", "y", "g"}, Params: y.params, Result: "g", Blocks: [][]api.Ins{{{Kind: api.KConst}, {Kind: api.KRet}}}}
		is(t, x, fmt.Sprint("Params ", y.params), f, answer{0, 0, y.err})
	}
}

func TestP1001Result(t *testing.T) {
	x := tableOf(t, machineText)
	for class, err := range map[string]api.Errno{"g": api.OK, "k": api.OK, "n": api.ErrReg, "x": api.ErrReg, "y": api.ErrReg, "al": api.ErrVreg} {
		f := api.Func{Name: "f", Vregs: []string{"g", "k"}, Result: class, Blocks: [][]api.Ins{{{Kind: api.KConst}, {Kind: api.KConst, D: 1}, {Kind: api.KRet}}}}
		if class == "k" {
			f.Blocks[0][2].A = 1
		}
		is(t, x, "Result "+class, f, answer{0, 0, err})
		f.Params = []int{7}
		is(t, x, "Result "+class+" behind a Param", f, answer{0, 0, api.ErrVreg})
		if err != api.OK {
			f.Params, f.Blocks = nil, nil
			is(t, x, "Result "+class+" ahead of no block", f, answer{0, 0, err})
		}
	}
}

func TestP1001Kinds(t *testing.T) {
	x := tableOf(t, machineText)
	for _, kind := range append(odd(10), 0, 10, 11, 12) {
		for i := range 5 {
			f := funcOf(t, small)
			ins(&f, 2, i).Kind = kind
			is(t, x, fmt.Sprint("kind ", kind), f, answer{2, i, api.ErrIns})
		}
	}
}

// each is an instruction of each kind that may stand in small, by its kind.
func each() []api.Ins {
	return []api.Ins{
		api.KConst: {Kind: api.KConst, D: 5, N: 3},
		api.KCopy:  {Kind: api.KCopy, D: 5, A: 0},
		api.KOp:    {Kind: api.KOp, D: 1, Name: "sub", Args: []int{0, 2}},
		api.KLoad:  {Kind: api.KLoad, D: 3, A: 4},
		api.KStore: {Kind: api.KStore, A: 4, B: 2},
		api.KCall:  {Kind: api.KCall, D: 5, Name: "h", Args: []int{0, 4}},
		api.KBr:    {Kind: api.KBr, A: 0, T: 1, F: 2},
		api.KJump:  {Kind: api.KJump, T: 2},
		api.KRet:   {Kind: api.KRet, A: 0},
	}
}

// with is small with an instruction put in at the beginning of block 0, or at its end.
func with(t *testing.T, x api.Ins) (api.Func, int) {
	f := funcOf(t, small)
	if x.Kind < api.KBr {
		f.Blocks[0] = append([]api.Ins{x}, f.Blocks[0]...)
		return f, 0
	}
	f.Blocks[0][5] = x
	return f, 5
}

func TestP1001Ends(t *testing.T) {
	x := tableOf(t, machineText)
	for kind, y := range each()[1:] {
		f, i := with(t, y)
		is(t, x, fmt.Sprint("kind ", kind+1), f, fine)
		if y.Kind < api.KBr {
			f.Blocks[0][len(f.Blocks[0])-1] = y
			is(t, x, fmt.Sprint("kind ", kind+1, " last"), f, answer{0, len(f.Blocks[0]) - 1, api.ErrIns})
			f.Blocks[0] = []api.Ins{y}
			is(t, x, fmt.Sprint("kind ", kind+1, " alone"), f, answer{0, 0, api.ErrIns})
			continue
		}
		f.Blocks[0][2] = y
		is(t, x, fmt.Sprint("kind ", kind+1, " not last"), f, answer{0, 2, api.ErrIns})
		f, _ = with(t, y)
		f.Blocks[0] = append(f.Blocks[0], y)
		is(t, x, fmt.Sprint("kind ", kind+1, " twice"), f, answer{0, i, api.ErrIns})
		f.Blocks[0] = []api.Ins{y}
		if kind+1 != api.KRet {
			f.Params = []int{0, 4, 2}
			f.Blocks[1], f.Blocks[2] = []api.Ins{{Kind: api.KRet}}, []api.Ins{{Kind: api.KRet}}
		}
		is(t, x, fmt.Sprint("kind ", kind+1, " alone"), f, fine)
	}
}

func TestP1001Operations(t *testing.T) {
	x := tableOf(t, machineText)
	for _, s := range []string{"", "mul", "Add", "add ", "nop", "copy", "g", strings.Repeat("add", 30000)} {
		f, i := with(t, api.Ins{Kind: api.KOp, D: 0, Name: s, Args: []int{0, 0}})
		is(t, x, "operation "+s, f, answer{0, i, api.ErrIns})
	}
	for name, n := range map[string]int{"add": 2, "sub": 2, "not": 1, "lt": 2, "div": 2} {
		for _, k := range []int{0, 1, 2, 3, 17, 100000} {
			f, i := with(t, api.Ins{Kind: api.KOp, D: -1, Name: name, Args: make([]int, k)})
			want := answer{0, i, api.ErrIns}
			if k == n {
				want.err = api.ErrVreg
			}
			is(t, x, fmt.Sprint(name, " of ", k), f, want)
		}
	}
}

// TestP1001OperandClasses: an operation's registers, of all classes.
func TestP1001OperandClasses(t *testing.T) {
	x := tableOf(t, machineText)
	classes := []string{"g", "k", "n", "x", "y"}
	for name, want := range map[string]string{"add": "ggg", "sub": "kgn", "lt": "nkk", "div": "ggg", "not": "xx"} {
		for d := range 5 {
			for a := range 5 {
				for b := range 5 {
					args := []int{a, b}[:len(want)-1]
					got := classes[d]
					for _, v := range args {
						got += classes[v]
					}
					f := api.Func{Name: "f", Vregs: append(slices.Clone(classes), "g"), Params: []int{5}, Result: "g"}
					f.Blocks = [][]api.Ins{{{Kind: api.KRet, A: 5}}, {{Kind: api.KConst}, {Kind: api.KOp, D: d, Name: name, Args: args}, {Kind: api.KRet, A: 5}}}
					answers := map[bool]answer{true: fine, false: {1, 1, api.ErrReg}}
					is(t, x, name+" "+got, f, answers[got == want])
				}
			}
		}
	}
}

// TestP1001OtherClasses: of copies, calls, rets the classes that are asked for; of the others any may be.
func TestP1001OtherClasses(t *testing.T) {
	x := tableOf(t, machineText)
	classes := []string{"g", "k", "n", "x", "y"}
	wants := map[bool]answer{true: fine, false: {1, 0, api.ErrReg}}
	ask := func(what string, ok bool, y api.Ins) {
		t.Helper()
		f := api.Func{Name: "f", Vregs: append(slices.Clone(classes), "g"), Params: []int{5}, Result: "g"}
		f.Blocks = [][]api.Ins{{{Kind: api.KRet, A: 5}}, {y, {Kind: api.KRet, A: 5}}}
		if y.Kind >= api.KBr {
			f.Blocks[1] = f.Blocks[1][:1]
		}
		is(t, x, what, f, wants[ok])
	}
	for d, dc := range classes {
		ask("const "+dc, true, api.Ins{Kind: api.KConst, D: d, N: math.MinInt})
		ask("br "+dc, true, api.Ins{Kind: api.KBr, A: d, T: 1, F: 1})
		ask("ret "+dc, dc == "g", api.Ins{Kind: api.KRet, A: d})
		ask("result "+dc, dc == "g" || dc == "k", api.Ins{Kind: api.KCall, D: d, Name: "h"})
		for a, ac := range classes {
			ask("copy "+dc+ac, dc == ac, api.Ins{Kind: api.KCopy, D: d, A: a})
			ask("load "+dc+ac, true, api.Ins{Kind: api.KLoad, D: d, A: a})
			ask("store "+dc+ac, true, api.Ins{Kind: api.KStore, A: d, B: a})
		}
		for place, may := range []string{"gk", "y", "gkn"} {
			args := []int{0, 4, 0}
			args[place] = d
			ask(fmt.Sprint("argument ", place, dc), strings.Contains(may, dc), api.Ins{Kind: api.KCall, D: -1, Name: "h", Args: args})
			ask(fmt.Sprint("last argument ", place, dc), strings.Contains(may, dc), api.Ins{Kind: api.KCall, D: 1, Name: "h", Args: args[:place+1]})
		}
	}
}

// TestP1001Registers: each of the registers of each kind, with numbers that are none.
func TestP1001Registers(t *testing.T) {
	x := tableOf(t, machineText)
	for kind, parts := range map[int]string{api.KConst: "D", api.KCopy: "DA", api.KOp: "Dab", api.KLoad: "DA", api.KStore: "AB", api.KCall: "Dab", api.KBr: "A", api.KRet: "A"} {
		for _, part := range parts {
			for _, n := range odd(6) {
				y := each()[kind]
				y.Args = slices.Clone(y.Args)
				switch part {
				case 'D':
					y.D = n
				case 'A':
					y.A = n
				case 'B':
					y.B = n
				default:
					y.Args[part-'a'] = n
				}
				f, i := with(t, y)
				want := answer{0, i, api.ErrVreg}
				if kind == api.KCall && part == 'D' && n == -1 {
					want = fine
				}
				is(t, x, fmt.Sprint("kind ", kind, ", ", string(part), " ", n), f, want)
			}
		}
	}
}

func TestP1001Targets(t *testing.T) {
	x := tableOf(t, machineText)
	for _, n := range append(odd(3), 0) {
		for _, y := range []api.Ins{{Kind: api.KJump, T: n}, {Kind: api.KBr, A: 0, T: n, F: 2}, {Kind: api.KBr, A: 0, T: 2, F: n}, {Kind: api.KBr, A: 0, T: n, F: n}} {
			f, i := with(t, y)
			is(t, x, fmt.Sprint(y), f, answer{0, i, api.ErrBlock})
		}
	}
	for _, y := range []api.Ins{{Kind: api.KJump, T: 2}, {Kind: api.KBr, A: 0, T: 2, F: 2}, {Kind: api.KBr, A: 5, T: 2, F: 1}} {
		f, _ := with(t, y)
		is(t, x, fmt.Sprint(y), f, fine)
	}
	// A block may go to itself, if it is not the first.
	f := funcOf(t, small)
	ins(&f, 1, 3).T = 1
	is(t, x, "a ring", f, fine)
}

// TestP1001NotLookedAt: what a kind does not name may be anything.
func TestP1001NotLookedAt(t *testing.T) {
	x := tableOf(t, machineText)
	for kind, named := range map[int]string{api.KConst: "DN", api.KCopy: "DA", api.KOp: "Dna", api.KLoad: "DA", api.KStore: "AB", api.KCall: "Dna", api.KBr: "ATF", api.KJump: "T", api.KRet: "A"} {
		for _, n := range odd(6) {
			y := each()[kind]
			for part, set := range map[string]func(){
				"D": func() { y.D = n }, "A": func() { y.A = n }, "B": func() { y.B = n }, "N": func() { y.N = n }, "T": func() { y.T = n }, "F": func() { y.F = n },
				"n": func() { y.Name = "no name" }, "a": func() { y.Args = many(30, n) },
			} {
				if !strings.Contains(named, part) {
					set()
				}
			}
			f, _ := with(t, y)
			is(t, x, fmt.Sprint("kind ", kind, " with ", n), f, fine)
		}
	}
}

// TestP1001OrderWithin: of an instruction the errors come in their order.
func TestP1001OrderWithin(t *testing.T) {
	x := tableOf(t, machineText)
	for _, y := range []struct {
		x   api.Ins
		err api.Errno
	}{
		{api.Ins{Kind: api.KOp, D: 9, Name: "mul", Args: []int{9, 9}}, api.ErrIns},
		{api.Ins{Kind: api.KOp, D: 9, Name: "add", Args: []int{9}}, api.ErrIns},
		{api.Ins{Kind: api.KOp, D: 3, Name: "add", Args: []int{0, 9}}, api.ErrVreg},
		{api.Ins{Kind: api.KOp, D: 3, Name: "add", Args: []int{0, 0}}, api.ErrReg},
		{api.Ins{Kind: api.KOp, D: 9, Name: "not", Args: []int{0}}, api.ErrVreg},
		{api.Ins{Kind: api.KCall, D: 9, Name: "", Args: []int{9}}, api.ErrIns},
		{api.Ins{Kind: api.KCall, D: -2, Name: "h", Args: []int{9, 9, 9, 9}}, api.ErrIns},
		{api.Ins{Kind: api.KCall, D: 3, Name: "h", Args: []int{3, 9}}, api.ErrVreg},
		{api.Ins{Kind: api.KCall, D: -2, Name: "h", Args: []int{3}}, api.ErrVreg},
		{api.Ins{Kind: api.KCall, D: 3, Name: "h", Args: []int{0, 4, 2}}, api.ErrReg},
		{api.Ins{Kind: api.KCopy, D: 3, A: 6}, api.ErrVreg},
		{api.Ins{Kind: api.KBr, A: 6, T: 0, F: 9}, api.ErrVreg},
		{api.Ins{Kind: api.KRet, A: 6, T: 9}, api.ErrVreg},
	} {
		f, i := with(t, y.x)
		is(t, x, fmt.Sprint(y.x), f, answer{0, i, y.err})
	}
	// A block's own fault stands ahead of those of its instructions, behind those of the blocks ahead.
	f := funcOf(t, small)
	f.Blocks[1] = many(401, api.Ins{})
	is(t, x, "too long", f, answer{1, 0, api.ErrBlock})
	ins(&f, 0, 5).T = 0
	is(t, x, "a block ahead", f, answer{0, 5, api.ErrBlock})
}

// way is a function over g alone, and what is told of it.
type way struct {
	what, params string
	blocks       []string
	want         answer
}

func TestP1001Ways(t *testing.T) {
	x := tableOf(t, machineText)
	read := func(b, i int) answer { return answer{b, i, api.ErrVreg} }
	for _, y := range []way{
		{"a Param", "0", []string{"ret 0"}, fine},
		{"no Param", "", []string{"ret 0"}, read(0, 0)},
		{"another Param", "1", []string{"ret 0"}, read(0, 0)},
		{"written ahead", "", []string{"0 = const 1;ret 0"}, fine},
		{"written behind", "", []string{"1 = copy 0;0 = const 1;ret 0"}, read(0, 0)},
		{"written by what reads it", "", []string{"0 = copy 0;ret 0"}, read(0, 0)},
		{"written by an operation that reads it", "1", []string{"0 = add 1 0;ret 0"}, read(0, 0)},
		{"written by a load that reads it", "", []string{"0 = load 0;ret 0"}, read(0, 0)},
		{"written by a call that reads it", "", []string{"0 = call h 0;ret 0"}, read(0, 0)},
		{"written by a call", "", []string{"0 = call h;ret 0"}, fine},
		{"not written by a call", "", []string{"call h;ret 0"}, read(0, 1)},
		{"read by a call", "", []string{"call h 0;0 = const 1;ret 0"}, read(0, 0)},
		{"written by a load", "1", []string{"0 = load 1;ret 0"}, fine},
		{"written by a copy", "1", []string{"0 = copy 1;ret 0"}, fine},
		{"written by an operation", "1", []string{"0 = add 1 1;ret 0"}, fine},
		{"not written by a store", "1", []string{"store 1 1;ret 0"}, read(0, 1)},
		{"a store's address", "1", []string{"store 0 1;ret 1"}, read(0, 0)},
		{"a store's value", "1", []string{"store 1 0;ret 1"}, read(0, 0)},
		{"a load's address", "1", []string{"1 = load 0;ret 1"}, read(0, 0)},
		{"a branch's", "1", []string{"br 0 1 1", "ret 1"}, read(0, 0)},
		{"the first of two", "", []string{"1 = copy 2;3 = copy 4;ret 1"}, read(0, 0)},
		{"on both ways", "1", []string{"br 1 1 2", "0 = const 1;jump 3", "0 = const 2;jump 3", "ret 0"}, fine},
		{"on the one way", "1", []string{"br 1 1 2", "0 = const 1;jump 3", "jump 3", "ret 0"}, read(3, 0)},
		{"on the other way", "1", []string{"br 1 1 2", "jump 3", "0 = const 1;jump 3", "ret 0"}, read(3, 0)},
		{"past a block", "1", []string{"br 1 1 2", "0 = const 1;jump 2", "ret 0"}, read(2, 0)},
		{"past a block, by F", "1", []string{"br 1 2 1", "0 = const 1;jump 2", "ret 0"}, read(2, 0)},
		{"both to one block", "1", []string{"0 = const 1;br 1 1 1", "ret 0"}, fine},
		{"in a ring, ahead", "1", []string{"0 = const 1;jump 1", "2 = copy 0;br 1 1 2", "ret 2"}, fine},
		{"in a ring, behind", "1", []string{"jump 1", "2 = copy 0;0 = const 1;br 1 1 2", "ret 2"}, read(1, 0)},
		{"behind a ring", "1", []string{"jump 1", "br 1 2 3", "0 = const 1;jump 1", "ret 0"}, read(3, 0)},
		{"round about", "1", []string{"jump 3", "br 1 2 4", "0 = const 1;jump 1", "jump 1", "ret 0"}, read(4, 0)},
		{"within a ring in a ring", "1", []string{"0 = const 1;jump 1", "br 1 2 4", "br 1 3 1", "0 = copy 0;jump 2", "ret 0"}, fine},
		{"not reached", "1", []string{"ret 1", "ret 0"}, fine},
		{"not reached, in a ring", "1", []string{"ret 1", "2 = copy 0;jump 2", "jump 1"}, fine},
		{"from what is not reached", "1", []string{"0 = const 1;jump 2", "jump 2", "ret 0"}, fine},
		{"written in what is not reached", "1", []string{"jump 2", "0 = const 1;jump 2", "ret 0"}, read(2, 0)},
		{"by number, not by way", "1", []string{"jump 3", "ret 0", "ret 1", "br 0 1 2"}, read(1, 0)},
		{"without an end", "1", []string{"jump 1", "2 = copy 0;jump 1"}, read(1, 0)},
		{"a Param written again", "0", []string{"0 = const 1;br 0 1 2", "ret 0", "jump 2"}, fine},
	} {
		text := "func f\nregs g g g g g\n" + strings.TrimSpace("params "+y.params) + "\nresult g\n"
		for _, b := range y.blocks {
			text += "block\n  " + strings.ReplaceAll(b, ";", "\n  ") + "\n"
		}
		is(t, x, y.what, funcOf(t, text+"end\n"), y.want)
	}
}

// TestP1001WaysBehindPlaces: what is not written is told behind all that is wrong elsewhere.
func TestP1001WaysBehindPlaces(t *testing.T) {
	x := tableOf(t, machineText)
	f := funcOf(t, "func f\nregs g g\nparams\nresult g\nblock\n  ret 0\nblock\n  ret 1\nend\n")
	is(t, x, "not written", f, answer{0, 0, api.ErrVreg})
	ins(&f, 1, 0).Kind = 0
	is(t, x, "no kind", f, answer{1, 0, api.ErrIns})
}

func TestP1001AgainstModel(t *testing.T) {
	s := steps(10)
	told := map[api.Errno]int{}
	for _, text := range texts(t) {
		x := tableOf(t, text)
		g := generator{steps: &s, m: x.Machine()}
		for i := range 6000 {
			f := g.function()
			for range []int{0, 0, 1, 1, 1, 2, 3}[s.next(7)] {
				g.turn(&f)
			}
			want := modelCheck(x.Machine(), f)
			if got := check(x, f); got != want {
				t.Fatalf("function %d: %v, want %v: %+v", i, got, want, f)
			}
			told[want.err]++
		}
	}
	for err, least := range map[api.Errno]int{api.OK: 4000, api.ErrLong: 50, api.ErrName: 50, api.ErrArg: 100, api.ErrVreg: 3000, api.ErrReg: 800, api.ErrBlock: 1000, api.ErrIns: 1000} {
		if told[err] < least {
			t.Errorf("error %d: %d times, want %d", err, told[err], least)
		}
	}
}

// texts is the test's own machine, and those that are shipped.
func texts(t *testing.T) []string {
	l := []string{machineText}
	for _, name := range shipped.Names() {
		s, err := shipped.Text(name)
		if err != api.OK {
			t.Fatal(err)
		}
		l = append(l, s)
	}
	return l
}

// great is a function as great as can be, in which the blocks are gone round and round.
func great() api.Func {
	f := api.Func{Name: "f", Vregs: many(500, "g"), Params: []int{0}, Result: "g"}
	for b := range 200 {
		var l []api.Ins
		for i := range 399 {
			l = append(l, api.Ins{Kind: api.KOp, D: 1 + (7*b+i)%490, Name: "add", Args: []int{0, 0}})
		}
		f.Blocks = append(f.Blocks, append(l, api.Ins{Kind: api.KBr, T: 1 + (b*61+5)%199, F: max(1, b-1)}))
	}
	return f
}

func TestP1001Great(t *testing.T) {
	x := tableOf(t, machineText)
	f := great()
	is(t, x, "great", f, fine)
	f.Blocks[150][10].Args[1] = 495
	is(t, x, "great, not written", f, answer{150, 10, api.ErrVreg})
	// Lists that share their memory are short to hand in, and too long to go over.
	args := make([]int, 1<<20)
	l := many(400, api.Ins{Kind: api.KCall, Name: "h", Args: args})
	is(t, x, "arguments", api.Func{Name: "f", Result: "g", Blocks: many(200, l)}, answer{0, 0, api.ErrIns})
	is(t, x, "blocks", api.Func{Name: "f", Result: "g", Blocks: many(1<<20, l)}, answer{0, 0, api.ErrLong})
	is(t, x, "Vregs", api.Func{Name: "f", Vregs: many(1<<20, "g")}, answer{0, 0, api.ErrLong})
	is(t, x, "Params", api.Func{Name: "f", Vregs: many(500, "g"), Params: make([]int, 1<<24)}, answer{0, 0, api.ErrArg})
}

// roomy is small with room behind each list, in which something stands.
func roomy(t *testing.T) api.Func {
	f := funcOf(t, small)
	f.Vregs = append(f.Vregs, "x", "y")[:6]
	f.Params = append(f.Params, 7, 8)[:3]
	for i, b := range f.Blocks {
		for k, x := range b {
			b[k].Args = append(x.Args, 7, 8)[:len(x.Args)]
		}
		f.Blocks[i] = append(b, api.Ins{Kind: 7}, api.Ins{Kind: 8})[:len(b)]
	}
	f.Blocks = append(f.Blocks, nil, []api.Ins{{Kind: 9}})[:3]
	return f
}

// whole is f with the room behind each list.
func whole(f api.Func) api.Func {
	f.Vregs, f.Params = f.Vregs[:8], f.Params[:5]
	f.Blocks = slices.Clone(f.Blocks[:5])
	for i, b := range f.Blocks[:3] {
		b = slices.Clone(b[:len(b)+2])
		for k, x := range b[:len(b)-2] {
			b[k].Args = x.Args[:len(x.Args)+2]
		}
		f.Blocks[i] = b
	}
	return f
}

func TestP1002ArgumentsAreNotChanged(t *testing.T) {
	x := tableOf(t, machineText)
	before := x.Machine()
	for _, turn := range []func(f *api.Func){func(*api.Func) {}, func(f *api.Func) { f.Params[1] = 0 }, func(f *api.Func) { ins(f, 2, 4).A = 1 }, func(f *api.Func) { ins(f, 0, 0).D = 3 }} {
		f, g := roomy(t), roomy(t)
		turn(&f)
		turn(&g)
		check(x, f)
		if !reflect.DeepEqual(whole(f), whole(g)) {
			t.Error("what was handed in is changed")
		}
	}
	if !reflect.DeepEqual(before, x.Machine()) {
		t.Error("the table is changed")
	}
}

func TestP1002SameAnswers(t *testing.T) {
	x := tableOf(t, machineText)
	for _, y := range faults() {
		f := funcOf(t, small)
		is(t, x, "small", f, fine)
		y.turn(&f)
		is(t, x, y.what, f, y.want)
		is(t, tableOf(t, machineText), y.what, f, y.want)
	}
}

func TestP1002AtOneTime(t *testing.T) {
	x := tableOf(t, machineText)
	var funcs []api.Func
	var want []answer
	for _, y := range append(faults(), fault{"small", func(*api.Func) {}, fine}) {
		f := funcOf(t, small)
		y.turn(&f)
		funcs, want = append(funcs, f), append(want, y.want)
	}
	var wg sync.WaitGroup
	for i := range 8 {
		wg.Go(func() {
			for n := range 200 {
				if k := (n + i) % len(funcs); check(x, funcs[k]) != want[k] {
					t.Error("another answer")
					return
				}
			}
		})
	}
	wg.Wait()
}
