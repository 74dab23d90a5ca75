package vir_test

import (
	"fmt"
	"math"
	"reflect"
	"slices"
	"strings"
	"sync"
	"testing"
	"unsafe"

	"pigeonhole/api"
	"pigeonhole/vir"
)

// small has each form of a line.
const small = `func small
regs g b g
params 2 0
result g
block
  0 = const -17
  1 = copy 0
  2 = add 1 0
  2 = not 99999
  jump 1
block
block
  0 = load 2
  store 0 10
  call f
  call g 1 2 3
  1 = call h
  0 = call h 1
  br 0 1 2
block
  ret 12
end
`

// smallFunc is the function of small, anew on each call.
func smallFunc() api.Func {
	return api.Func{
		Name: "small", Vregs: []string{"g", "b", "g"}, Params: []int{2, 0}, Result: "g",
		Blocks: [][]api.Ins{
			{
				{Kind: api.KConst, N: -17},
				{Kind: api.KCopy, D: 1},
				{Kind: api.KOp, D: 2, Name: "add", Args: []int{1, 0}},
				{Kind: api.KOp, D: 2, Name: "not", Args: []int{99999}},
				{Kind: api.KJump, T: 1},
			},
			{},
			{
				{Kind: api.KLoad, A: 2},
				{Kind: api.KStore, B: 10},
				{Kind: api.KCall, D: -1, Name: "f"},
				{Kind: api.KCall, D: -1, Name: "g", Args: []int{1, 2, 3}},
				{Kind: api.KCall, D: 1, Name: "h"},
				{Kind: api.KCall, Name: "h", Args: []int{1}},
				{Kind: api.KBr, T: 1, F: 2},
			},
			{{Kind: api.KRet, A: 12}},
		},
	}
}

const head = "func f\nregs g\nparams 0\nresult g\n"

// funcOf is a function of one block of these instructions.
func funcOf(b ...api.Ins) api.Func {
	return api.Func{Name: "f", Vregs: []string{"g"}, Params: []int{0}, Result: "g", Blocks: [][]api.Ins{b}}
}

// textOf is the text of a function of one block of that line.
func textOf(line string) string { return head + "block\n  " + line + "\nend\n" }

func many[T any](n int, x T) []T { return slices.Repeat([]T{x}, n) }

// short is a text as a message can bear it.
func short(s string) string {
	if len(s) > 300 {
		return s[:200] + ".." + s[len(s)-80:]
	}
	return s
}

// same tells whether two functions are one, of whom an empty list is none.
func same(a, b api.Func) bool { return fmt.Sprintf("%+v", a) == fmt.Sprintf("%+v", b) }

// reads tells whether s is read as want.
func reads(t *testing.T, s string, want api.Func) {
	t.Helper()
	f, line, err := vir.Read(s)
	if line != 0 || err != api.OK {
		t.Errorf("%q: error %d at line %d", short(s), err, line)
	} else if !same(f, want) {
		t.Errorf("%q: read as\n%.300s, want\n%.300s", short(s), fmt.Sprintf("%+v", f), fmt.Sprintf("%+v", want))
	}
}

// prints tells whether f is plain, and has that text, which is read as f.
func prints(t *testing.T, f api.Func, want string) {
	t.Helper()
	if !vir.Plain(f) {
		t.Errorf("not plain: %q", short(want))
	}
	if got := vir.Print(f); got != want {
		t.Errorf("printed %q, want %q", short(got), short(want))
	}
	reads(t, want, f)
}

// notPlain tells whether f is not plain, and not printed.
func notPlain(t *testing.T, what string, f api.Func) {
	t.Helper()
	if vir.Plain(f) {
		t.Errorf("%s: plain", what)
	}
	if got := vir.Print(f); got != "" {
		t.Errorf("%s: printed %q", what, short(got))
	}
}

// failsAt tells whether s has that error at that line.
func failsAt(t *testing.T, s string, line int, want api.Errno) {
	t.Helper()
	f, got, err := vir.Read(s)
	if got != line || err != want {
		t.Errorf("%q: error %d at line %d, want %d at %d", short(s), err, got, want, line)
	}
	if !reflect.DeepEqual(f, api.Func{}) {
		t.Errorf("%q: beside error %d stands %.300s", short(s), err, fmt.Sprintf("%+v", f))
	}
}

// fails tells whether s has that error at the line ahead of which `^` stands.
func fails(t *testing.T, s string, want api.Errno) {
	t.Helper()
	ahead, rest, found := strings.Cut(s, "^")
	if !found || strings.Contains(rest, "^") {
		t.Fatalf("%q: no place", short(s))
	}
	failsAt(t, ahead+rest, 1+strings.Count(ahead, "\n"), want)
}

// asModel tells whether s is read as the model reads it.
func asModel(t *testing.T, s string) api.Errno {
	t.Helper()
	line, want := modelRead(s)
	if want != api.OK {
		failsAt(t, s, line, want)
		return want
	}
	f, line, err := vir.Read(s)
	if line != 0 || err != api.OK {
		t.Errorf("%q: error %d at line %d", short(s), err, line)
	} else if !vir.Plain(f) || vir.Print(f) != s || modelPrint(f) != s {
		t.Errorf("%q: read as %.300s", short(s), fmt.Sprintf("%+v", f))
	}
	return err
}

func TestP901Ordinary(t *testing.T) {
	prints(t, smallFunc(), small)
	prints(t, api.Func{Name: "f", Vregs: []string{"g"}, Params: []int{0}, Result: "g", Blocks: [][]api.Ins{{{Kind: api.KRet}}}},
		"func f\nregs g\nparams 0\nresult g\nblock\n  ret 0\nend\n")
	prints(t, api.Func{Name: "f", Result: "g"}, "func f\nregs\nparams\nresult g\nend\n")
	prints(t, api.Func{Name: "f", Vregs: []string{}, Params: []int{}, Result: "g", Blocks: [][]api.Ins{}}, "func f\nregs\nparams\nresult g\nend\n")
	prints(t, api.Func{Name: "f", Result: "g", Blocks: make([][]api.Ins, 2)}, "func f\nregs\nparams\nresult g\nblock\nblock\nend\n")
}

func TestP901EachLine(t *testing.T) {
	for line, x := range map[string]api.Ins{
		"3 = const 0":                    {Kind: api.KConst, D: 3},
		"0 = const 9223372036854775807":  {Kind: api.KConst, N: math.MaxInt64},
		"0 = const -9223372036854775808": {Kind: api.KConst, N: math.MinInt64},
		"99999 = const -1":               {Kind: api.KConst, D: 99999, N: -1},
		"0 = const 100000":               {Kind: api.KConst, N: 100000},
		"1 = copy 2":                     {Kind: api.KCopy, D: 1, A: 2},
		"1 = load 2":                     {Kind: api.KLoad, D: 1, A: 2},
		"1 = store 2":                    {Kind: api.KOp, D: 1, Name: "store", Args: []int{2}},
		"1 = ret 2 3":                    {Kind: api.KOp, D: 1, Name: "ret", Args: []int{2, 3}},
		"1 = br 0 0":                     {Kind: api.KOp, D: 1, Name: "br", Args: []int{0, 0}},
		"0 = jump 0":                     {Kind: api.KOp, Name: "jump", Args: []int{0}},
		"store 1 2":                      {Kind: api.KStore, A: 1, B: 2},
		"call call":                      {Kind: api.KCall, D: -1, Name: "call"},
		"call const 7":                   {Kind: api.KCall, D: -1, Name: "const", Args: []int{7}},
		"0 = call copy":                  {Kind: api.KCall, Name: "copy"},
		"5 = call load 5 4 5":            {Kind: api.KCall, D: 5, Name: "load", Args: []int{5, 4, 5}},
		"br 1 2 3":                       {Kind: api.KBr, A: 1, T: 2, F: 3},
		"jump 3":                         {Kind: api.KJump, T: 3},
		"ret 1":                          {Kind: api.KRet, A: 1},
	} {
		prints(t, funcOf(x), textOf(line))
		prints(t, funcOf(x, x), head+"block\n  "+line+"\n  "+line+"\nend\n")
	}
}

// wrongLines are lines that are none of a body, whatever stands ahead of them; the two blanks are left out.
var wrongLines = []string{
	"", " ", "x", "0", "=", "0 =", "= const 1", "const 1", "copy 1", "load 1", "add 1 2", "nop", "end", "block", "func f",
	"0 = const", "0 = const x", "0 = const 1 2", "0 = const 1 ", " 0 = const 1", "0  = const 1", "0 =  const 1", "0 = const  1", "0= const 1", "0 =const 1", "x = const 1", "-1 = const 1", "0 = const 1.", "0 = const 0x1", "0 = const 1_0", "0 = const +1", "0 = const --1", "0 = const - 1", "0 = const -", "0 = const -0", "0 = const 00", "0 = const 01", "0 = const -01", "0 = const 9223372036854775808", "0 = const -9223372036854775809", "0 = const 18446744073709551616", "0 = const 100000000000000000000000000000000000", "0 = const \uff11",
	"0 = copy", "0 = copy x", "0 = copy 1 2", "copy 0 1", "0 = copy -1", "0 = copy 00",
	"0 = load", "0 = load 1 2", "load 0 1", "0 = load x",
	"0 = add", "0 = add ", "0 = add 1 2 3", "0 = add 1  2", "0 = add 1 2 ", "0 = add x", "0 = add 1 x", "0 = 1 2", "0 = 1", "0 = a-b 1", "0 = add -1", "0 = add 1 -1", "0 = add 1,2", "-1 = add 1 2", "add = add 1 2", "0 0 = add 1", "0 = = 1",
	"store", "store 1", "store 1 2 3", "store x 1", "store 1 x", "store 1  2", "store -1 2", "Store 1 2",
	"call", "call 1", "call f x", "call f g", "call f ", "call  f", "call f -1", "call f 1  2", "0 = call", "0 = call 1", "0 = call f x", "-1 = call f", "x = call f", "call f = 1", "0 = 0 = call f",
	"br", "br 1", "br 1 2", "br 1 2 3 4", "br x 1 2", "br 1 x 2", "br 1 2 x", "0 = br 1 2 3", "br 1 2 -3",
	"jump", "jump x", "jump 1 2", "jump -1", "jump 00", "0 = jump", "jump  1",
	"ret", "ret x", "ret 0 0", "ret 0 ", "ret  0", "ret 00", "ret 01", "ret -1", "ret -0", "ret +1", "ret 100000", "ret 099999", "ret 1000000", "ret 4294967296", "ret 18446744073709551616", "ret 0\r", "ret\t0", "ret 0#", "ret 0 # none", "ret\u00a00", "0 = ret", "ret 0\x00", "RET 0", "ret0",
}

func TestP901WrongLines(t *testing.T) {
	for _, line := range wrongLines {
		fails(t, head+"block\n^  "+line+"\nend\n", api.ErrSyntax)
		fails(t, head+"block\n  ret 0\n  ret 0\nblock\n^  "+line, api.ErrSyntax)
		fails(t, head+"block\n^  "+line+"\n\n", api.ErrSyntax)
	}
	// How an instruction's line begins.
	for _, x := range []string{"ret 0", "0 = const 1", "0 = add 1 2", "call f", "br 0 1 2"} {
		for _, ahead := range []string{"", " ", "   ", "    ", "\t", "\t\t", "  \t", " \t", "\r  ", "-  ", "\u00a0\u00a0"} {
			fails(t, head+"block\n^"+ahead+x+"\nend\n", api.ErrSyntax)
		}
	}
	// How the others begin and end.
	for _, x := range []string{"block", "end"} {
		for _, line := range []string{" " + x, "  " + x, x + " ", x + " 0", x + "\r", x + x, strings.ToUpper(x), "", " ", "  ", "\x00", x[:2], "#", x + "#"} {
			fails(t, head+"^"+line+"\nend\n", api.ErrSyntax)
			fails(t, head+"block\n^"+line+"\nend\n", api.ErrSyntax)
			fails(t, head+"block\n  ret 0\n^"+line+"\n", api.ErrSyntax)
		}
	}
}

func TestP901WrongHeads(t *testing.T) {
	lines := strings.SplitAfter(head, "\n")
	for i, bad := range [][]string{
		{"func", "func ", "func f f", "func  f", " func f", "func f ", "func 1", "func f-", "Func f", "funcf", "func f\r", "function f", "f", "f func", "func func f", "func é", "func f#", "machine f {"},
		{"regs ", "regs  g", "regs g ", "regs g  g", " regs g", "reg g", "regs 1", "regs g 1", "regs 1 g", "regs g,g", "regs g -", "Regs g", "regsg", "g", "regs g\r", "regs\t", "regs\tg"},
		{"params ", "params  0", "params 0 ", "params 0  0", " params 0", "param 0", "params x", "params 0 x", "params -1", "params 00", "params 100000", "params 0 100000", "params +1", "params 0,1", "params0", "0", "params 0\r"},
		{"result", "result ", "result g g", "result  g", " result g", "result g ", "result 1", "result -1", "resultg", "Result g", "result g\r"},
	} {
		bad = append(bad, "", " ", "\t", "\r", "\x00", "#", "block", "end", "  ret 0", "  0 = const 1")
		for k := range lines[:4] {
			if k != i {
				bad = append(bad, strings.TrimSuffix(lines[k], "\n"))
			}
		}
		ahead, behind := strings.Join(lines[:i], ""), strings.Join(lines[i+1:], "")
		for _, line := range bad {
			fails(t, ahead+"^"+line+"\n"+behind+"end\n", api.ErrSyntax)
			fails(t, ahead+"^"+line+"\n"+lines[i]+behind+"end\n", api.ErrSyntax)
			fails(t, ahead+"^"+line, api.ErrSyntax)
		}
		fails(t, ahead+"^"+behind+"end\n", api.ErrSyntax) // it is left out
		fails(t, ahead+lines[i]+"^"+lines[i]+behind+"end\n", api.ErrSyntax)
	}
	for _, line := range []string{"  ret 0", "  0 = const 1", "  call f", "  nop", "  "} { // an instruction of no block
		fails(t, head+"^"+line+"\nend\n", api.ErrSyntax)
		fails(t, head+"^"+line+"\nblock\nend\n", api.ErrSyntax)
	}
}

func TestP901Names(t *testing.T) {
	good := []string{"a", "z", "A", "Z", "_", "__", "_0", "a0", "aZ_9", "func", "regs", "params", "result", "block", "end", "store", "br", "jump", "ret", "machine", "reg", "slots", "Const", "CALL", "copy_", "loads",
		strings.Repeat("n", 20), strings.Repeat("_", 20), "a" + strings.Repeat("9", 19)}
	bad := []string{"", " ", "0", "9a", "a b", " a", "a ", "a-b", "a=", "=", "{", ":", "a:b", "a.b", "a#", "#", "a#b", "é", "aé", "a\xff", "a\x00", "a\n", "\na", "a\r", "a\tb", "-", "-a",
		strings.Repeat("n", 21), strings.Repeat("_", 40), "a" + strings.Repeat("9", 20), strings.Repeat("n", api.MaxText+1)}
	kinds := []string{"const", "copy", "load", "call"}
	for what, x := range map[string]struct {
		turn      func(f *api.Func, s string)
		good, bad []string
	}{
		"func":        {func(f *api.Func, s string) { f.Name = s }, append(good, kinds...), bad},
		"first class": {func(f *api.Func, s string) { f.Vregs[0] = s }, append(good, kinds...), bad},
		"last class":  {func(f *api.Func, s string) { f.Vregs[2] = s }, append(good, kinds...), bad},
		"result":      {func(f *api.Func, s string) { f.Result = s }, append(good, kinds...), bad},
		"operation":   {func(f *api.Func, s string) { f.Blocks[0][2].Name = s }, good, append(bad, kinds...)},
		"of one":      {func(f *api.Func, s string) { f.Blocks[0][3].Name = s }, good, append(bad, kinds...)},
		"call":        {func(f *api.Func, s string) { f.Blocks[2][2].Name = s }, append(good, kinds...), bad},
		"call of it":  {func(f *api.Func, s string) { f.Blocks[2][4].Name = s }, append(good, kinds...), bad},
	} {
		for _, s := range x.good {
			f := smallFunc()
			x.turn(&f, s)
			prints(t, f, modelPrint(f))
		}
		for _, s := range x.bad {
			f := smallFunc()
			x.turn(&f, s)
			notPlain(t, fmt.Sprintf("%s %q", what, short(s)), f)
			text := modelPrint(f)
			asModel(t, text)
		}
	}
	// A name that is too long makes a line that by itself cannot be.
	long := strings.Repeat("n", 21)
	for _, s := range []string{"^func " + long, "func f\n^regs g " + long, "func f\nregs g\nparams 0\n^result " + long, head + "block\n^  0 = " + long + " 0", head + "block\n^  call " + long} {
		fails(t, s+"\n", api.ErrSyntax)
	}
}

func TestP901Numbers(t *testing.T) {
	for what, turn := range map[string]func(f *api.Func, n int){
		"param":      func(f *api.Func, n int) { f.Params[0] = n },
		"last param": func(f *api.Func, n int) { f.Params[1] = n },
		"const D":    func(f *api.Func, n int) { f.Blocks[0][0].D = n },
		"copy D":     func(f *api.Func, n int) { f.Blocks[0][1].D = n },
		"copy A":     func(f *api.Func, n int) { f.Blocks[0][1].A = n },
		"add D":      func(f *api.Func, n int) { f.Blocks[0][2].D = n },
		"add 0":      func(f *api.Func, n int) { f.Blocks[0][2].Args[0] = n },
		"add 1":      func(f *api.Func, n int) { f.Blocks[0][2].Args[1] = n },
		"not 0":      func(f *api.Func, n int) { f.Blocks[0][3].Args[0] = n },
		"jump T":     func(f *api.Func, n int) { f.Blocks[0][4].T = n },
		"load D":     func(f *api.Func, n int) { f.Blocks[2][0].D = n },
		"load A":     func(f *api.Func, n int) { f.Blocks[2][0].A = n },
		"store A":    func(f *api.Func, n int) { f.Blocks[2][1].A = n },
		"store B":    func(f *api.Func, n int) { f.Blocks[2][1].B = n },
		"call 0":     func(f *api.Func, n int) { f.Blocks[2][3].Args[0] = n },
		"call 2":     func(f *api.Func, n int) { f.Blocks[2][3].Args[2] = n },
		"br A":       func(f *api.Func, n int) { f.Blocks[2][6].A = n },
		"br T":       func(f *api.Func, n int) { f.Blocks[2][6].T = n },
		"br F":       func(f *api.Func, n int) { f.Blocks[2][6].F = n },
		"ret A":      func(f *api.Func, n int) { f.Blocks[3][0].A = n },
	} {
		for _, n := range []int{0, 1, 9, 10, 500, 9999, 10000, 65536, 99998, 99999} {
			f := smallFunc()
			turn(&f, n)
			prints(t, f, modelPrint(f))
		}
		for _, n := range []int{-1, -2, 100000, 100001, 1 << 31, 1 << 32, 1<<32 + 5, math.MaxInt, math.MinInt, -99999, -100000} {
			f := smallFunc()
			turn(&f, n)
			notPlain(t, fmt.Sprintf("%s %d", what, n), f)
			if err := asModel(t, modelPrint(f)); err != api.ErrSyntax {
				t.Errorf("%s %d: read with error %d", what, n, err)
			}
		}
	}
	for _, n := range []int{0, 1, -1, 9, -9, 10, 99999, 100000, -100000, math.MaxInt32, math.MinInt32, math.MaxInt, math.MaxInt - 1, math.MinInt, math.MinInt + 1} {
		f := smallFunc()
		f.Blocks[0][0].N = n
		prints(t, f, modelPrint(f))
	}
	// The D of a call may be -1, too, and no other number below 0.
	for d, plain := range map[int]bool{-1: true, 0: true, 1: true, 99999: true, -2: false, -3: false, 100000: false, -100000: false, math.MinInt: false, math.MaxInt: false} {
		for _, i := range []int{2, 3, 4, 5} {
			f := smallFunc()
			f.Blocks[2][i].D = d
			if plain {
				prints(t, f, modelPrint(f))
			} else {
				notPlain(t, fmt.Sprintf("call D %d", d), f)
			}
		}
	}
}

// parts is what an instruction has, and which kinds name it.
var parts = []struct {
	name  string
	kinds []int
	turn  func(x *api.Ins)
}{
	{"D", []int{api.KConst, api.KCopy, api.KOp, api.KLoad, api.KCall}, func(x *api.Ins) { x.D = 5 }},
	{"A", []int{api.KCopy, api.KLoad, api.KStore, api.KBr, api.KRet}, func(x *api.Ins) { x.A = 5 }},
	{"B", []int{api.KStore}, func(x *api.Ins) { x.B = 5 }},
	{"N", []int{api.KConst}, func(x *api.Ins) { x.N = 5 }},
	{"Name", []int{api.KOp, api.KCall}, func(x *api.Ins) { x.Name = "e" }},
	{"Args", []int{api.KCall}, func(x *api.Ins) { x.Args = []int{5, 5, 5} }},
	{"two Args", []int{api.KOp, api.KCall}, func(x *api.Ins) { x.Args = []int{0, 5} }},
	{"an Arg", []int{api.KOp, api.KCall}, func(x *api.Ins) { x.Args = []int{5} }},
	{"an Arg of 0", []int{api.KOp, api.KCall}, func(x *api.Ins) { x.Args = []int{0} }},
	{"no Args", []int{api.KConst, api.KCopy, api.KLoad, api.KStore, api.KCall, api.KBr, api.KJump, api.KRet}, func(x *api.Ins) { x.Args = []int{} }},
	{"nil Args", []int{api.KConst, api.KCopy, api.KLoad, api.KStore, api.KCall, api.KBr, api.KJump, api.KRet}, func(x *api.Ins) { x.Args = nil }},
	{"17 Args", nil, func(x *api.Ins) { x.Args = make([]int, 17) }},
	{"T", []int{api.KBr, api.KJump}, func(x *api.Ins) { x.T = 5 }},
	{"F", []int{api.KBr}, func(x *api.Ins) { x.F = 5 }},
	{"D of -1", []int{api.KCall}, func(x *api.Ins) { x.D = -1 }},
	{"A of -1", nil, func(x *api.Ins) { x.A = -1 }},
	{"B of -1", nil, func(x *api.Ins) { x.B = -1 }},
	{"N of -1", []int{api.KConst}, func(x *api.Ins) { x.N = -1 }},
	{"T of -1", nil, func(x *api.Ins) { x.T = -1 }},
	{"F of -1", nil, func(x *api.Ins) { x.F = -1 }},
}

// bare is an instruction of that kind with as little as may be.
func bare(kind int) api.Ins {
	switch kind {
	case api.KOp:
		return api.Ins{Kind: kind, Name: "not", Args: []int{0}}
	case api.KCall:
		return api.Ins{Kind: kind, Name: "f"}
	}
	return api.Ins{Kind: kind}
}

func TestP901WhatAKindNames(t *testing.T) {
	for kind := 1; kind <= 9; kind++ {
		x := bare(kind)
		prints(t, funcOf(x), textOf(strings.TrimSpace(modelLine(x))))
		for _, p := range parts {
			x := bare(kind)
			p.turn(&x)
			f := funcOf(bare(api.KRet), x, bare(api.KRet))
			if slices.Contains(p.kinds, kind) {
				prints(t, f, modelPrint(f))
			} else {
				notPlain(t, fmt.Sprintf("kind %d with %s", kind, p.name), f)
			}
		}
		if x.Name != "" {
			x.Name = ""
			notPlain(t, fmt.Sprintf("kind %d without a name", kind), funcOf(x))
		}
	}
	for _, kind := range []int{0, -1, -9, 10, 11, 12, 256 + 1, 1<<32 + 9, math.MaxInt, math.MinInt} {
		for _, like := range []int{1, 3, 6, 8} {
			x := bare(like)
			x.Kind = kind
			notPlain(t, fmt.Sprintf("kind %d", kind), funcOf(x))
			notPlain(t, fmt.Sprintf("kind %d behind others", kind), funcOf(bare(1), bare(9), x))
		}
	}
}

func TestP901HowMany(t *testing.T) {
	call := func(n int) api.Ins { return api.Ins{Kind: api.KCall, D: -1, Name: "f", Args: make([]int, n)} }
	ret := api.Ins{Kind: api.KRet}
	for what, x := range map[string]struct {
		most int
		turn func(f *api.Func, n int)
	}{
		"regs":             {500, func(f *api.Func, n int) { f.Vregs = many(n, "g") }},
		"params":           {16, func(f *api.Func, n int) { f.Params = make([]int, n) }},
		"blocks":           {200, func(f *api.Func, n int) { f.Blocks = make([][]api.Ins, n) }},
		"blocks of some":   {200, func(f *api.Func, n int) { f.Blocks = many(n, []api.Ins{ret, ret}) }},
		"instructions":     {400, func(f *api.Func, n int) { f.Blocks = [][]api.Ins{many(n, ret)} }},
		"of the last":      {400, func(f *api.Func, n int) { f.Blocks = append(many(30, many(20, ret)), many(n, ret)) }},
		"of one of three":  {400, func(f *api.Func, n int) { f.Blocks = [][]api.Ins{many(400, ret), many(n, ret), many(400, ret)} }},
		"arguments":        {16, func(f *api.Func, n int) { f.Blocks[2][3].Args = many(n, 7) }},
		"of a call for it": {16, func(f *api.Func, n int) { f.Blocks[2][5].Args = many(n, 99999) }},
		"of the last call": {16, func(f *api.Func, n int) { f.Blocks[3] = []api.Ins{call(16), call(0), call(n)} }},
		"operands":         {2, func(f *api.Func, n int) { f.Blocks[0][2].Args = make([]int, max(n, 1)) }},
	} {
		for _, n := range []int{0, 1, x.most - 1, x.most, x.most + 1, x.most + 2, 2 * x.most, 5 * x.most} {
			f := smallFunc()
			x.turn(&f, n)
			text := modelPrint(f)
			if n <= x.most {
				prints(t, f, text)
				continue
			}
			notPlain(t, fmt.Sprintf("%d %s", n, what), f)
			if err := asModel(t, text); err != api.ErrLong && what != "operands" {
				t.Errorf("%d %s: error %d", n, what, err)
			}
		}
	}
}

func TestP901ReadLimits(t *testing.T) {
	ret, block := "  ret 0\n", "block\n"
	regs := "func f\n^regs" + strings.Repeat(" g", 500)
	params := "func f\nregs\n^params" + strings.Repeat(" 1", 16)
	blocks := head + strings.Repeat(block, 200)
	full := head + block + strings.Repeat(ret, 400)
	for _, behind := range []string{"", "end\n", "x\n", "params\nresult g\nend\n", ret, block, "  nop\n"} {
		// What is one too many.
		fails(t, regs+" g\n"+behind, api.ErrLong)
		fails(t, regs+strings.Repeat(" x9", 300)+"\n"+behind, api.ErrLong)
		fails(t, params+" 1\n"+behind, api.ErrLong)
		fails(t, params+strings.Repeat(" 0", 9000)+"\n"+behind, api.ErrLong)
		fails(t, blocks+"^"+block+behind, api.ErrLong)
		fails(t, blocks+ret+ret+"^"+block+behind, api.ErrLong)
		for _, line := range []string{"ret 0", "0 = const -5", "0 = add 1 2", "call f", "call f" + strings.Repeat(" 0", 17)} {
			fails(t, full+"^  "+line+"\n"+behind, api.ErrLong)
			fails(t, full+block+strings.Repeat(ret, 400)+"^  "+line+"\n"+behind, api.ErrLong)
		}
		for _, call := range []string{"  call f", "  3 = call f"} {
			fails(t, head+block+"^"+call+strings.Repeat(" 0", 17)+"\n"+behind, api.ErrLong)
			fails(t, head+block+ret+"^"+call+strings.Repeat(" 99999", 2000)+"\n"+behind, api.ErrLong)
			fails(t, head+block+call+strings.Repeat(" 0", 16)+"\n^"+call+strings.Repeat(" 0", 17)+"\n"+behind, api.ErrLong)
		}
		// A line that by itself cannot be is not too long or one too many.
		for _, bad := range []string{"", "1", "g-", strings.Repeat("g", 21)} {
			fails(t, regs+" g "+bad+"\n"+behind, api.ErrSyntax)
			fails(t, regs+" "+bad+" g\n"+behind, api.ErrSyntax)
		}
		for _, bad := range []string{"", "x", "-1", "00", "100000"} {
			fails(t, params+" 1 "+bad+"\n"+behind, api.ErrSyntax)
			fails(t, params+" "+bad+" 1\n"+behind, api.ErrSyntax)
			for _, call := range []string{"  call f", "  3 = call f"} {
				fails(t, head+block+"^"+call+strings.Repeat(" 0", 17)+" "+bad+"\n"+behind, api.ErrSyntax)
				fails(t, head+block+"^"+call+" "+bad+strings.Repeat(" 0", 17)+"\n"+behind, api.ErrSyntax)
				fails(t, full+"^"+call+" "+bad+"\n"+behind, api.ErrSyntax)
			}
		}
		fails(t, blocks+"^block \n"+behind, api.ErrSyntax)
		for _, line := range wrongLines {
			fails(t, full+"^  "+line+"\n"+behind, api.ErrSyntax)
		}
		// No operation has three operands, or more.
		for _, n := range []int{3, 4, 16, 17, 18, 500} {
			fails(t, head+block+"^  0 = add"+strings.Repeat(" 0", n)+"\n"+behind, api.ErrSyntax)
			fails(t, full+"^  0 = add"+strings.Repeat(" 0", n)+"\n"+behind, api.ErrSyntax)
		}
		// Nor is a line that stands where it cannot, however few there were.
		fails(t, "^regs"+strings.Repeat(" g", 501)+"\n"+behind, api.ErrSyntax)
		fails(t, "func f\nregs\nparams\n^params"+strings.Repeat(" 1", 17)+"\n"+behind, api.ErrSyntax)
		fails(t, head+"^  call f"+strings.Repeat(" 0", 17)+"\n"+behind, api.ErrSyntax)
		fails(t, full+"end\n^"+ret+behind, api.ErrSyntax)
		fails(t, blocks+"end\n^"+block+behind, api.ErrSyntax)
	}
	// Nor is one that has no end.
	fails(t, regs+" g", api.ErrSyntax)
	fails(t, params+" 1", api.ErrSyntax)
	fails(t, blocks+"^block", api.ErrSyntax)
	fails(t, full+"^  ret 0", api.ErrSyntax)
	fails(t, head+block+"^  call f"+strings.Repeat(" 0", 17), api.ErrSyntax)
	// The lines that are the last ones let through.
	for _, s := range []string{strings.Replace(regs, "^", "", 1) + "\nparams\nresult g\nend\n", strings.Replace(params, "^", "", 1) + "\nresult g\nend\n", blocks + "end\n", full + "end\n", full + block + strings.Repeat(ret, 400) + block + "end\n"} {
		if err := asModel(t, s); err != api.OK {
			t.Errorf("%q: error %d", short(s), err)
		}
	}
}

func TestP901EarlyEnd(t *testing.T) {
	for n := range small {
		s := small[:n]
		failsAt(t, s, 1+strings.Count(s, "\n"), api.ErrSyntax)
	}
	failsAt(t, "", 1, api.ErrSyntax)
	failsAt(t, "\n", 1, api.ErrSyntax)
	fails(t, head+"^", api.ErrSyntax)
	fails(t, head+"block\n^", api.ErrSyntax)
	fails(t, head+"block\n  ret 0\n^", api.ErrSyntax)
	fails(t, head+"^end", api.ErrSyntax)
	fails(t, head+"block\n^  ret 0", api.ErrSyntax)
}

func TestP901BehindTheEnd(t *testing.T) {
	for _, s := range []string{small, head + "end\n", "func f\nregs\nparams\nresult g\nblock\nend\n"} {
		for _, behind := range []string{"\n", "\n\n", " ", "x", "x\n", "end", "end\n", "block\n", "  ret 0\n", "\r\n", "\x00", "#\n", small, "x\n\ny\nend\n", strings.Repeat("\n", 5000)} {
			fails(t, s+"^"+behind, api.ErrSyntax)
		}
	}
}

func TestP901LongText(t *testing.T) {
	behind := "\nregs\nparams\nresult g\n"
	line := "  jump 0\n"
	for lines := 0; len("func f"+behind+line+"block\nend\n") <= api.MaxText; lines++ {
		if lines%api.MaxIns == 0 {
			behind += "block\n"
		}
		behind += line
	}
	behind += "end\n"
	s := "func " + strings.Repeat("f", api.MaxText-len("func ")-len(behind)) + behind
	if len(s) != api.MaxText {
		t.Fatalf("%d bytes", len(s))
	}
	if err := asModel(t, s); err != api.OK {
		t.Errorf("a text as long as may be: error %d", err)
	}
	// One byte more is told ahead of all that is wrong in it.
	failsAt(t, strings.Replace(s, "func f", "func ff", 1), 0, api.ErrLong)
	failsAt(t, strings.Replace(s, "func f", "func  f", 1), 0, api.ErrLong)
	failsAt(t, s+"\n", 0, api.ErrLong)
	failsAt(t, s+"x", 0, api.ErrLong)
	failsAt(t, strings.Repeat("x", api.MaxText), 1, api.ErrSyntax)
	failsAt(t, strings.Repeat("x", api.MaxText+1), 0, api.ErrLong)
	failsAt(t, strings.Repeat("\n", api.MaxText), 1, api.ErrSyntax)
	failsAt(t, strings.Repeat("\n", api.MaxText+1), 0, api.ErrLong)
	failsAt(t, small+strings.Repeat("\n", api.MaxText-len(small)), 1+strings.Count(small, "\n"), api.ErrSyntax)
	failsAt(t, small+strings.Repeat("\n", api.MaxText+1-len(small)), 0, api.ErrLong)
	failsAt(t, strings.Repeat("x", 1<<22), 0, api.ErrLong)
}

// TestP901OneByteOff: small with one byte left out, put in, or another one.
func TestP901OneByteOff(t *testing.T) {
	ends := map[api.Errno]int{}
	for i := range small {
		ends[asModel(t, small[:i]+small[i+1:])]++
		for c := range 256 {
			b := string([]byte{byte(c)})
			ends[asModel(t, small[:i]+b+small[i:])]++
			ends[asModel(t, small[:i]+b+small[i+1:])]++
		}
		if t.Failed() {
			return
		}
	}
	if ends[api.OK] < 2000 || ends[api.ErrSyntax] < 50000 {
		t.Errorf("too few of one kind: %v", ends)
	}
}

// TestP901OneLineOff: small with one line left out, put in, another one, or standing elsewhere.
func TestP901OneLineOff(t *testing.T) {
	lines := strings.SplitAfter(strings.TrimSuffix(small, "\n"), "\n")
	lines[len(lines)-1] += "\n"
	ends := map[api.Errno]int{}
	ask := func(l []string) { ends[asModel(t, strings.Join(l, ""))]++ }
	pool := append(slices.Clone(lines), "\n", " \n", "  \n", "x\n", "  nop\n", "  call f"+strings.Repeat(" 1", 17)+"\n", "regs"+strings.Repeat(" g", 501)+"\n", "params"+strings.Repeat(" 1", 17)+"\n")
	for i := range lines {
		ask(slices.Delete(slices.Clone(lines), i, i+1))
		for k := range lines {
			l := slices.Clone(lines)
			l[i], l[k] = l[k], l[i]
			ask(l)
		}
		for _, x := range pool {
			l := slices.Clone(lines)
			l[i] = x
			ask(l)
			ask(slices.Insert(slices.Clone(lines), i, x))
		}
	}
	if ends[api.OK] < 300 || ends[api.ErrSyntax] < 300 || ends[api.ErrLong] < 20 {
		t.Errorf("too few of one kind: %v", ends)
	}
}

// steps is a row of numbers that is the same on every run.
type steps uint64

func (s *steps) next(below int) int {
	*s = *s*6364136223846793005 + 1442695040888963407
	return int(uint64(*s)>>33) % below
}

func (s *steps) name() string {
	return []string{"a", "b", "Z", "_", "const_", "store", "end", "n"}[s.next(8)] + strings.Repeat("k", s.next(4)) + []string{"", "7", "_0", "x9"}[s.next(4)]
}

func (s *steps) number() int {
	return []int{s.next(10), s.next(500), s.next(100000), 99999 - s.next(3)}[s.next(4)]
}

func (s *steps) numbers(least, most int) []int {
	var l []int
	for range least + s.next(most-least+1) {
		l = append(l, s.number())
	}
	return l
}

// ins is an instruction that can be written down.
func (s *steps) ins() api.Ins {
	x := api.Ins{Kind: 1 + s.next(9)}
	d, a := s.number(), s.number()
	switch x.Kind {
	case api.KConst:
		x.D, x.N = d, []int{a, -a, a << 40, math.MinInt + a, math.MaxInt - a}[s.next(5)]
	case api.KCopy, api.KLoad:
		x.D, x.A = d, a
	case api.KOp:
		x.D, x.Name, x.Args = d, s.name(), s.numbers(1, 2)
	case api.KStore:
		x.A, x.B = a, d
	case api.KCall:
		x.D, x.Name, x.Args = []int{d, -1}[s.next(2)], s.name(), s.numbers(0, 16)
	case api.KBr:
		x.A, x.T, x.F = a, d, s.number()
	case api.KJump:
		x.T = d
	case api.KRet:
		x.A = a
	}
	return x
}

// function is one that can be written down.
func (s *steps) function() api.Func {
	f := api.Func{Name: s.name(), Params: s.numbers(0, 5), Result: s.name()}
	for range s.next(6) {
		f.Vregs = append(f.Vregs, s.name())
	}
	for range s.next(5) {
		var b []api.Ins
		for range s.next(6) {
			b = append(b, s.ins())
		}
		f.Blocks = append(f.Blocks, b)
	}
	return f
}

// oddNumber is one that often cannot be written down.
func (s *steps) oddNumber() int {
	return []int{-2, -1, 0, 1, 99999, 100000, math.MaxInt, math.MinInt}[s.next(8)]
}

// oddName is one that often is none.
func (s *steps) oddName() string {
	return []string{"", "a", "const", "copy", "load", "call", "9", "a b", "x\n", strings.Repeat("n", 20), strings.Repeat("n", 21), "store"}[s.next(12)]
}

// turnIns changes a part of an instruction.
func (s *steps) turnIns(x *api.Ins) {
	switch s.next(10) {
	case 0:
		x.Kind = s.next(14) - 2
	case 1:
		x.D = s.oddNumber()
	case 2:
		x.A = s.oddNumber()
	case 3:
		x.B = s.oddNumber()
	case 4:
		x.N = s.oddNumber()
	case 5:
		x.T = s.oddNumber()
	case 6:
		x.F = s.oddNumber()
	case 7:
		x.Name = s.oddName()
	case 8:
		x.Args = make([]int, []int{0, 1, 2, 3, 16, 17}[s.next(6)])
	case 9:
		if len(x.Args) > 0 {
			x.Args[s.next(len(x.Args))] = s.oddNumber()
		}
	}
}

// turn changes a part of a function.
func (s *steps) turn(f *api.Func) {
	switch s.next(40) {
	case 0:
		f.Name = s.oddName()
	case 1:
		f.Result = s.oddName()
	case 2:
		f.Vregs = append(f.Vregs, s.oddName())
	case 3:
		f.Params = append(f.Params, s.oddNumber())
	case 4:
		f.Vregs = many(499+s.next(3), "g")
	case 5:
		f.Params = many(15+s.next(3), 1)
	case 6:
		f.Blocks = append(f.Blocks, many(399+s.next(3), s.ins()))
	case 7:
		f.Blocks = many(199+s.next(3), []api.Ins{s.ins()})
	default:
		if len(f.Blocks) == 0 {
			return
		}
		if b := f.Blocks[s.next(len(f.Blocks))]; len(b) > 0 {
			s.turnIns(&b[s.next(len(b))])
		}
	}
}

func TestP901FunctionsAgainstModel(t *testing.T) {
	s := steps(21)
	plain := 0
	for range 2500 {
		f := s.function()
		prints(t, f, modelPrint(f))
		for range 4 {
			s.turn(&f)
			if modelPlain(f) {
				plain++
				text := modelPrint(f)
				if got := vir.Print(f); !vir.Plain(f) || got != text {
					t.Errorf("printed %q, want %q", short(got), short(text))
				}
				if len(text) <= api.MaxText {
					reads(t, text, f)
				} else {
					failsAt(t, text, 0, api.ErrLong)
				}
			} else {
				notPlain(t, short(modelPrint(f)), f)
			}
		}
		if t.Failed() {
			return
		}
	}
	if plain < 2500 || plain > 7500 {
		t.Errorf("%d of 10000 are plain", plain)
	}
}

// turnText changes a line, or a word of one.
func (s *steps) turnText(text string) string {
	lines := strings.SplitAfter(text, "\n")
	at := s.next(len(lines))
	words := strings.Split(strings.TrimSuffix(lines[at], "\n"), " ")
	k := s.next(len(words))
	odd := []string{"", "0", "-1", "00", "99999", "100000", "a", "const", "copy", "load", "call", "add", "store", "br", "jump", "ret", "=", "block", "end", "9a", "-9223372036854775808", "9223372036854775808"}
	switch s.next(8) {
	case 0:
		lines = slices.Delete(lines, at, at+1)
		return strings.Join(lines, "")
	case 1:
		lines = slices.Insert(lines, at, lines[s.next(len(lines))])
		return strings.Join(lines, "")
	case 2:
		words = slices.Insert(words, k, odd[s.next(len(odd))])
	case 3:
		words = slices.Delete(words, k, k+1)
	case 4:
		words = slices.Insert(words, k, many(1+s.next(18), words[k])...)
	case 5:
		lines = slices.Insert(lines, at, many(395+s.next(10), lines[at])...)
		return strings.Join(lines, "")
	default:
		words[k] = odd[s.next(len(odd))]
	}
	lines[at] = strings.Join(words, " ") + "\n"
	return strings.Join(lines, "")
}

func TestP901TextsAgainstModel(t *testing.T) {
	s := steps(22)
	ends := map[api.Errno]int{}
	for range 12000 {
		text := vir.Print(s.function())
		for range 1 + s.next(2) {
			text = s.turnText(text)
		}
		ends[asModel(t, text)]++
		if t.Failed() {
			return
		}
	}
	for err, least := range map[api.Errno]int{api.OK: 500, api.ErrSyntax: 4000, api.ErrLong: 100} {
		if ends[err] < least {
			t.Errorf("%d texts end with %d: too few", ends[err], err)
		}
	}
}

func TestP901GreatFunctions(t *testing.T) {
	name := strings.Repeat("n", 20)
	call := api.Ins{Kind: api.KCall, D: 99999, Name: name, Args: many(16, 99999)}
	f := api.Func{Name: name, Vregs: many(500, name), Params: many(16, 99999), Result: name, Blocks: many(200, many(400, call))}
	want := modelPrint(f)
	if !vir.Plain(f) || vir.Print(f) != want {
		t.Error("the greatest function is not printed as it is")
	}
	failsAt(t, want, 0, api.ErrLong)
	f.Blocks[199] = append(slices.Clone(f.Blocks[199][:399]), api.Ins{})
	notPlain(t, "but for the last instruction", f)
	f.Blocks = many(2, many(200, call))
	prints(t, f, modelPrint(f))
}

// TestP901GreatArguments: what need not be gone over to be refused is not.
func TestP901GreatArguments(t *testing.T) {
	great := strings.Repeat("n", 1<<24)
	args := make([]int, 1<<22)
	block := many(1<<18, api.Ins{Kind: api.KCall, Name: great, Args: args})
	for what, f := range map[string]api.Func{
		"name":         {Name: great, Result: "g"},
		"result":       {Name: "f", Result: great},
		"regs":         {Name: "f", Result: "g", Vregs: many(1<<20, "g")},
		"great regs":   {Name: "f", Result: "g", Vregs: many(500, great)},
		"params":       {Name: "f", Result: "g", Params: args},
		"blocks":       {Name: "f", Result: "g", Blocks: many(1<<20, block)},
		"instructions": {Name: "f", Result: "g", Blocks: many(200, block)},
		"arguments":    {Name: "f", Result: "g", Blocks: many(200, many(400, api.Ins{Kind: api.KCall, Name: "f", Args: args}))},
		"operation":    {Name: "f", Result: "g", Blocks: many(200, many(400, api.Ins{Kind: api.KOp, Name: great, Args: args[:1]}))},
	} {
		notPlain(t, what, f)
	}
}

func TestP902SameAnswers(t *testing.T) {
	texts := []string{small, "", head, head + "end\n", head + "block\n  call f" + strings.Repeat(" 0", 17) + "\n", strings.Repeat("x", api.MaxText+1), head + "block\n  nop\n"}
	for range 3 {
		for i, s := range texts {
			f, line, err := vir.Read(s)
			vir.Read(texts[(i+1)%len(texts)])
			vir.Print(smallFunc())
			f2, line2, err2 := vir.Read(strings.Clone(s))
			if !reflect.DeepEqual(f, f2) || line != line2 || err != err2 {
				t.Errorf("%q is told in two ways", short(s))
			}
			if vir.Print(f) != vir.Print(f2) {
				t.Errorf("%q is printed in two ways", short(s))
			}
		}
	}
}

// lists goes over all lists of f, each with the room behind it, as memory from a byte up to another.
func lists(f api.Func) [][2]uintptr {
	var all [][2]uintptr
	add := func(p unsafe.Pointer, n int, size uintptr) {
		if n > 0 {
			all = append(all, [2]uintptr{uintptr(p), uintptr(p) + uintptr(n)*size})
		}
	}
	add(unsafe.Pointer(unsafe.SliceData(f.Vregs)), cap(f.Vregs), unsafe.Sizeof(""))
	add(unsafe.Pointer(unsafe.SliceData(f.Params)), cap(f.Params), unsafe.Sizeof(0))
	add(unsafe.Pointer(unsafe.SliceData(f.Blocks)), cap(f.Blocks), unsafe.Sizeof([]api.Ins{}))
	for _, b := range f.Blocks {
		add(unsafe.Pointer(unsafe.SliceData(b)), cap(b), unsafe.Sizeof(api.Ins{}))
		for _, x := range b {
			add(unsafe.Pointer(unsafe.SliceData(x.Args)), cap(x.Args), unsafe.Sizeof(0))
		}
	}
	return all
}

func TestP902AnswersAreNew(t *testing.T) {
	a, _, _ := vir.Read(small)
	b, _, _ := vir.Read(small)
	all := append(lists(a), lists(b)...)
	if len(all) != 2*(3+3+4) {
		t.Fatalf("%d lists", len(all))
	}
	slices.SortFunc(all, func(x, y [2]uintptr) int { return int(int64(x[0]) - int64(y[0])) })
	for i := 1; i < len(all); i++ {
		if all[i][0] < all[i-1][1] {
			t.Error("two lists share memory")
		}
	}
	a.Vregs[0], a.Params[0], a.Blocks[0][0].N, a.Blocks[0][2].Args[0], a.Blocks[3] = "x", 9, 9, 9, nil
	if !same(b, smallFunc()) {
		t.Error("an answer follows another one")
	}
	prints(t, smallFunc(), small)
}

func TestP902TextsAreNotKept(t *testing.T) {
	s := strings.Clone(small)
	from := uintptr(unsafe.Pointer(unsafe.StringData(s)))
	f, _, _ := vir.Read(s)
	for _, x := range []string{f.Name, f.Vregs[0], f.Vregs[1], f.Result, f.Blocks[0][2].Name, f.Blocks[0][3].Name, f.Blocks[2][2].Name, f.Blocks[2][4].Name} {
		if p := uintptr(unsafe.Pointer(unsafe.StringData(x))); from <= p && p < from+uintptr(len(s)) {
			t.Errorf("%q holds the text that was handed in", x)
		}
	}
	if s != small {
		t.Error("the text is changed")
	}
}

// roomy is smallFunc with room behind each list, in which something stands.
func roomy() api.Func {
	f := smallFunc()
	f.Vregs = append(f.Vregs, "x", "y")[:3]
	f.Params = append(f.Params, 7, 8)[:2]
	for i, b := range f.Blocks {
		for k, x := range b {
			n := len(x.Args)
			b[k].Args = append(x.Args, 7, 8)[:n]
		}
		n := len(b)
		f.Blocks[i] = append(b, api.Ins{Kind: 7}, api.Ins{Kind: 8})[:n]
	}
	f.Blocks = append(f.Blocks, nil, []api.Ins{{Kind: 9}})[:4]
	return f
}

// whole is f with the room behind each list.
func whole(f api.Func) api.Func {
	f.Vregs, f.Params = f.Vregs[:5], f.Params[:4]
	f.Blocks = slices.Clone(f.Blocks[:6])
	for i, b := range f.Blocks[:4] {
		b = slices.Clone(b[:len(b)+2])
		for k, x := range b[:len(b)-2] {
			b[k].Args = x.Args[:len(x.Args)+2]
		}
		f.Blocks[i] = b
	}
	return f
}

func TestP902ArgumentsAreNotChanged(t *testing.T) {
	for _, turn := range []func(f *api.Func){func(*api.Func) {}, func(f *api.Func) { f.Result = "" }, func(f *api.Func) { f.Blocks[3][0].A = -1 }} {
		f, g := roomy(), roomy()
		turn(&f)
		turn(&g)
		text := vir.Print(f)
		if vir.Plain(f) != (text != "") {
			t.Error("plain and not printed, or printed and not plain")
		}
		if !reflect.DeepEqual(whole(f), whole(g)) {
			t.Error("what was handed in is changed")
		}
		// What is answered does not follow it.
		f.Vregs[0], f.Params[0], f.Blocks[0][2].Args[0], f.Blocks[2] = "z", 9, 9, nil
		if text != vir.Print(g) {
			t.Error("another text")
		}
	}
}

func TestP902AtOneTime(t *testing.T) {
	texts := []string{small, head + "end\n", head, head + "block\n  nop\n", "regs\n"}
	tell := func(s string) string {
		f, line, err := vir.Read(s)
		return fmt.Sprintf("%+v %d %d %s", f, line, err, vir.Print(f))
	}
	var want []string
	for _, s := range texts {
		want = append(want, tell(s))
	}
	var wg sync.WaitGroup
	for i := range 8 {
		wg.Go(func() {
			for n := range 200 {
				if k := (n + i) % len(texts); tell(texts[k]) != want[k] {
					t.Error("another answer")
					return
				}
			}
		})
	}
	wg.Wait()
}
