package mach_test

import (
	"fmt"
	"math"
	"reflect"
	"slices"
	"strings"
	"testing"

	"pigeonhole/api"
	"pigeonhole/mach"
	"pigeonhole/parser"
	"pigeonhole/shipped"
	"pigeonhole/table"
)

// machineText is a machine whose classes differ, with ties to either use, Fixes and Clobs. Its registers are numbered
// a 0, al 1, ah 2, b 3, bl 4, c 5, d 6, w 7, v 8.
const machineText = `
machine m {
  reg a 64 { reg al 8 at 0 reg ah 8 at 8 }
  reg b 64 { reg bl 8 at 0 }
  reg c 64
  reg d 64
  reg w 32
  reg v 32
  class g = a b c d
  class n = c d
  class x = al ah
  class y = ah bl
  class z = w v
  op add g = g g tie 0
  op sub n = g n tie 1
  op not x = x clob ah
  op lt n = g g
  op div g:a = g:a g tie 0 clob d
  op rem g:d = g:a g:b clob a
  op eq z = z z
  args a bl c
  result a
  saved d
  slots 9
}`

// oddText is a machine whose registers have the names of what else stands in a text.
const oddText = `
machine code {
  reg call 16 { reg store 8 at 0 reg br 8 at 8 }
  reg jump 8 reg ret 8 reg spill 8 reg const 8 reg move 8 reg load 8 reg reload 8
  reg end 8 reg block 8 reg code 8 reg add 8 reg not 8
  reg A 8 reg B 8 reg D 8 reg N 8 reg T 8 reg F 8 reg OP 8 reg NAME 8 reg COUNT 8 reg RESULT 8
  reg call_ 8 reg _ 8
  class k = store br jump ret spill const move load reload end block code add not A B D N T F OP NAME COUNT RESULT
  class g = D RESULT A call_ _
  op add k = k k
  op not g = g clob A
  op xor g:D = g:A g:RESULT clob call
  args D A jump
  result D
  saved RESULT
  slots 1000
}`

// small is code that is taken, with each form of a line.
const small = `code f
slots 3
block
  a = const -7
  al = const 300
  b = move a
  al = move bl
  a = add a b
  d = sub b d
  al = not ah
  br w 1 2
block
  c = load ah
  store al d
  spill 2 ah
  spill 0 a
  w = reload 2
  b = reload 1
  jump 0
block
  call f 3
  a = call g 0
  c = lt d d
  a = div a c
  d = rem a b
  w = eq v v
  ret
end
`

// smallCode is the code of small, anew on each call.
func smallCode() api.Code {
	return api.Code{Name: "f", Slots: 3, Blocks: [][]api.Ins{
		{
			{Kind: api.KConst, D: 0, N: -7},
			{Kind: api.KConst, D: 1, N: 300},
			{Kind: api.KCopy, D: 3, A: 0},
			{Kind: api.KCopy, D: 1, A: 4},
			{Kind: api.KOp, D: 0, Name: "add", Args: []int{0, 3}},
			{Kind: api.KOp, D: 6, Name: "sub", Args: []int{3, 6}},
			{Kind: api.KOp, D: 1, Name: "not", Args: []int{2}},
			{Kind: api.KBr, A: 7, T: 1, F: 2},
		},
		{
			{Kind: api.KLoad, D: 5, A: 2},
			{Kind: api.KStore, A: 1, B: 6},
			{Kind: api.KSpill, N: 2, A: 2},
			{Kind: api.KSpill, N: 0, A: 0},
			{Kind: api.KReload, N: 2, D: 7},
			{Kind: api.KReload, N: 1, D: 3},
			{Kind: api.KJump, T: 0},
		},
		{
			{Kind: api.KCall, D: -1, Name: "f", N: 3},
			{Kind: api.KCall, D: 0, Name: "g"},
			{Kind: api.KOp, D: 5, Name: "lt", Args: []int{6, 6}},
			{Kind: api.KOp, D: 0, Name: "div", Args: []int{0, 5}},
			{Kind: api.KOp, D: 6, Name: "rem", Args: []int{0, 3}},
			{Kind: api.KOp, D: 7, Name: "eq", Args: []int{8, 8}},
			{Kind: api.KRet},
		},
	}}
}

func tableOf(t testing.TB, text string) *table.Table {
	t.Helper()
	m, line, col, err := parser.Parse(text)
	if err != api.OK {
		t.Fatalf("the description: error %d at %d %d", err, line, col)
	}
	x, err := table.Make(m)
	if err != api.OK {
		t.Fatalf("the description: error %d", err)
	}
	return x
}

// tables is those of the test's own machines, and of those that are shipped.
func tables(t testing.TB) []*table.Table {
	l := []*table.Table{tableOf(t, machineText), tableOf(t, oddText)}
	for _, name := range shipped.Names() {
		s, err := shipped.Text(name)
		if err != api.OK {
			t.Fatal(err)
		}
		l = append(l, tableOf(t, s))
	}
	return l
}

var fine = answer{}

func check(x *table.Table, c api.Code) answer {
	b, i, err := mach.Check(x, c)
	return answer{b, i, err}
}

func many[T any](n int, x T) []T { return slices.Repeat([]T{x}, n) }

// odd is numbers that are none of n things.
func odd(n int) []int {
	return []int{-1, -2, -64, n, n + 1, n + 64, 65535, 65536, 1 << 31, 1 << 32, 1<<32 + 1, -1 << 32, math.MaxInt, math.MinInt, math.MinInt + 1}
}

// short is a text as a message can bear it.
func short(s string) string {
	if len(s) > 300 {
		return s[:200] + ".." + s[len(s)-80:]
	}
	return s
}

// same tells whether two codes are one, of whom an empty list is none.
func same(a, b api.Code) bool { return fmt.Sprintf("%+v", a) == fmt.Sprintf("%+v", b) }

// is asks Check, and whether what it refuses is not printed.
func is(t *testing.T, x *table.Table, what string, c api.Code, want answer) {
	t.Helper()
	if got := check(x, c); got != want {
		t.Errorf("%s: %v, want %v", what, got, want)
	}
	if want.err == api.OK {
		return
	}
	if s := mach.Print(x, c); s != "" {
		t.Errorf("%s: refused, but printed %q", what, short(s))
	}
}

// reads tells whether s is read as want.
func reads(t *testing.T, x *table.Table, s string, want api.Code) {
	t.Helper()
	c, line, err := mach.Read(x, s)
	if line != 0 || err != api.OK {
		t.Errorf("%q: error %d at line %d", short(s), err, line)
	} else if !same(c, want) {
		t.Errorf("%q: read as\n%.300s, want\n%.300s", short(s), fmt.Sprintf("%+v", c), fmt.Sprintf("%+v", want))
	}
}

// prints tells whether c is taken, and has that text, which is read as c.
func prints(t *testing.T, x *table.Table, c api.Code, want string) {
	t.Helper()
	is(t, x, short(want), c, fine)
	if got := mach.Print(x, c); got != want {
		t.Errorf("printed %q, want %q", short(got), short(want))
	}
	reads(t, x, want, c)
}

// failsAt tells whether s has that error at that line.
func failsAt(t *testing.T, x *table.Table, s string, line int, want api.Errno) {
	t.Helper()
	c, got, err := mach.Read(x, s)
	if got != line || err != want {
		t.Errorf("%q: error %d at line %d, want %d at %d", short(s), err, got, want, line)
	}
	if !reflect.DeepEqual(c, api.Code{}) {
		t.Errorf("%q: beside error %d stands %.300s", short(s), err, fmt.Sprintf("%+v", c))
	}
}

// fails tells whether the line of s ahead of which `^` stands cannot be.
func fails(t *testing.T, x *table.Table, s string) {
	t.Helper()
	ahead, rest, found := strings.Cut(s, "^")
	if !found || strings.Contains(rest, "^") {
		t.Fatalf("%q: no place", short(s))
	}
	failsAt(t, x, ahead+rest, 1+strings.Count(ahead, "\n"), api.ErrSyntax)
}

// asModel tells whether s is read as the model reads it.
func asModel(t *testing.T, x *table.Table, o *model, s string) api.Errno {
	t.Helper()
	want, line, err := o.read(s)
	if err != api.OK {
		failsAt(t, x, s, line, err)
		return err
	}
	reads(t, x, s, want)
	if got := mach.Print(x, want); got != s {
		t.Errorf("printed %q, want %q", short(got), short(s))
	}
	return err
}

const head = "code f\nslots 3\n"

// textOf is the text of code of one block of that line and a ret.
func textOf(line string) string { return head + "block\n  " + line + "\n  ret\nend\n" }

// codeOf is the code of textOf of x's line.
func codeOf(x api.Ins) api.Code {
	return api.Code{Name: "f", Slots: 3, Blocks: [][]api.Ins{{x, {Kind: api.KRet}}}}
}

func TestP1202Ordinary(t *testing.T) {
	x := tableOf(t, machineText)
	prints(t, x, smallCode(), small)
	for _, x := range tables(t) {
		prints(t, x, api.Code{Name: "f", Blocks: [][]api.Ins{{{Kind: api.KRet}}}}, "code f\nslots 0\nblock\n  ret\nend\n")
	}
	prints(t, x, api.Code{Name: strings.Repeat("n", 20), Slots: 9, Blocks: [][]api.Ins{{{Kind: api.KJump, T: 1}}, {{Kind: api.KSpill, N: 8, A: 8}, {Kind: api.KJump}}}},
		"code nnnnnnnnnnnnnnnnnnnn\nslots 9\nblock\n  jump 1\nblock\n  spill 8 v\n  jump 0\nend\n")
}

func TestP1202EachLine(t *testing.T) {
	x := tableOf(t, machineText)
	for line, y := range map[string]api.Ins{
		"a = const 0":                     {Kind: api.KConst},
		"bl = const 9223372036854775807":  {Kind: api.KConst, D: 4, N: math.MaxInt64},
		"v = const -9223372036854775808":  {Kind: api.KConst, D: 8, N: math.MinInt64},
		"v = const 100000":                {Kind: api.KConst, D: 8, N: 100000},
		"v = const -1":                    {Kind: api.KConst, D: 8, N: -1},
		"w = move v":                      {Kind: api.KCopy, D: 7, A: 8},
		"w = move w":                      {Kind: api.KCopy, D: 7, A: 7},
		"ah = move bl":                    {Kind: api.KCopy, D: 2, A: 4},
		"b = add b d":                     {Kind: api.KOp, D: 3, Name: "add", Args: []int{3, 6}},
		"al = not al":                     {Kind: api.KOp, D: 1, Name: "not", Args: []int{1}},
		"al = load v":                     {Kind: api.KLoad, D: 1, A: 8},
		"store v al":                      {Kind: api.KStore, A: 8, B: 1},
		"call call 0":                     {Kind: api.KCall, D: -1, Name: "call"},
		"call const 3":                    {Kind: api.KCall, D: -1, Name: "const", N: 3},
		"a = call a 1":                    {Kind: api.KCall, Name: "a", N: 1},
		"a = call nnnnnnnnnnnnnnnnnnnn 2": {Kind: api.KCall, Name: strings.Repeat("n", 20), N: 2},
		"spill 1 b":                       {Kind: api.KSpill, N: 1, A: 3},
		"b = reload 2":                    {Kind: api.KReload, N: 2, D: 3},
	} {
		prints(t, x, codeOf(y), textOf(line))
		c := codeOf(y)
		c.Blocks = [][]api.Ins{{y, y, {Kind: api.KBr, A: 8, T: 1}}, {y, {Kind: api.KJump, T: 1}}}
		l := "  " + line + "\n"
		prints(t, x, c, head+"block\n"+l+l+"  br v 1 0\nblock\n"+l+"  jump 1\nend\n")
	}
}

// TestP1202Words: registers and calls may have the names of what else stands in a text.
func TestP1202Words(t *testing.T) {
	x := tableOf(t, oddText)
	o := modelOf(x.Machine())
	for _, r := range o.names {
		for _, line := range []string{r + " = const 1", r + " = load " + r, "store " + r + " " + r, r + " = move " + r, "spill 1 " + r, r + " = reload 1", "call " + r + " 1", "D = call " + r + " 3"} {
			if err := asModel(t, x, o, textOf(line)); err != api.OK {
				t.Errorf("%q: error %d", line, err)
			}
		}
		for _, line := range []string{r + " = " + r + " " + r, r + " = call f 1", r + " = not RESULT", "A " + r + " A", r + " A", r, r + " " + r, r + " =", "= " + r} {
			asModel(t, x, o, textOf(line))
		}
		if err := asModel(t, x, o, textOf(r+" = add "+r+" "+r)); (err == api.OK) == in("call call_ _", r) {
			t.Errorf("add of %q: error %d", r, err)
		}
		for _, end := range []string{"br " + r + " 0 0", "br " + r + " 0 1"} {
			asModel(t, x, o, head+"block\n  "+end+"\nend\n")
		}
	}
}

// wrongLines are lines that are none of a body, whatever stands ahead of them; the two blanks are left out.
var wrongLines = []string{
	"", " ", "x", "a", "=", "a =", "= const 1", "const 1", "move a", "load a", "add a b", "nop", "end", "block", "code f", "slots 3",
	"a = const", "a = const x", "a = const a", "a = const 1 2", "a = const 1 ", " a = const 1", "a  = const 1", "a =  const 1", "a = const  1", "a= const 1", "a =const 1", "e = const 1", "0 = const 1", "A = const 1", "g = const 1", "-1 = const 1", "a = const 1.", "a = const 0x1", "a = const 1_0", "a = const +1", "a = const --1", "a = const - 1", "a = const -", "a = const -0", "a = const 00", "a = const 01", "a = const -01", "a = const 9223372036854775808", "a = const -9223372036854775809", "a = const 18446744073709551616", "a = const 100000000000000000000000000000000000", "a = const \uff11",
	"a = move", "a = move x", "a = move a b", "move a b", "a = move 0", "a = move 1", "a = move a ", "a = move al1",
	"a = load", "a = load a b", "load a b", "a = load x", "a = load 0",
	"a = add", "a = add ", "a = nop", "a = add a b c", "a = add a a a a", "a = add a  b", "a = add a b ", "a = add x", "a = add a x", "a = add 0 3", "a = add a 3", "a = 1 a b", "a = a-b c", "a = 1", "a = add a,b", "a b = add a", "a = = b", "3 = add a b", "add = add a b", "a = " + strings.Repeat("n", 21) + " b",
	"a = const b", "a = const a b", "a = load a b", "a = call a", "a = call a b", "a = reload b", "a = reload a b",
	"store", "store a", "store a b c", "store x a", "store a x", "store a  b", "store 0 1", "Store a b", "store a b ",
	"call", "call f", "call f ", "call f a", "call f -1", "call f 00", "call f 01", "call f +1", "call f 100000", "call f 4294967296", "call f 1 2", "call f a b", "call 1 1", "call 1", "call  f 1", "call f  1", "call f- 1", "call " + strings.Repeat("n", 21) + " 1",
	"a = call", "a = call f", "a = call f x", "a = call f -1", "a = call f 100000", "a = call f 1 2", "a = call 1 1", "b = call f 1", "al = call f 1", "x = call f 1", "-1 = call f 1", "0 = call f 1", "call f = 1", "a = a = call f 1", "a = call f- 0",
	"br", "br a", "br a 1", "br a 1 2 3", "br x 1 2", "br a x 2", "br a 1 x", "br 0 1 2", "a = br a 1 2", "br a 1 -3", "br a -1 2", "br a 00 1", "br a 1 100000", "br a 1  2",
	"jump", "jump x", "jump a", "jump 1 2", "jump -1", "jump 00", "jump 100000", "a = jump", "jump  1", "jump 1 ",
	"ret a", "ret 0", "ret ", "ret  ", "ret\r", "\tret", "ret#", "ret # none", "ret\u00a0", "a = ret", "ret\x00", "RET", "Ret", "rets",
	"spill", "spill 0", "spill a", "spill a 0", "spill 0 x", "spill 0 0", "spill -1 a", "spill 00 a", "spill 100000 a", "spill 0 a b", "spill 0  a", "spill x a", "a = spill 0",
	"a = reload", "a = reload a", "a = reload -1", "a = reload 00", "a = reload 100000", "a = reload 0 1", "x = reload 0", "0 = reload 0", "reload 0", "reload a 0", "reload 0 a", "a = reload  0",
}

func TestP1202WrongLines(t *testing.T) {
	x := tableOf(t, machineText)
	for _, line := range wrongLines {
		fails(t, x, head+"block\n^  "+line+"\nend\n")
		fails(t, x, head+"block\n  ret\n  ret\nblock\n^  "+line)
		fails(t, x, head+"block\n^  "+line+"\n\n")
	}
	// How an instruction's line begins.
	for _, y := range []string{"ret", "a = const 1", "a = add a b", "call f 0", "br a 1 2"} {
		for _, ahead := range []string{"", " ", "   ", "    ", "\t", "\t\t", "  \t", " \t", "\r  ", "-  ", "\u00a0\u00a0"} {
			fails(t, x, head+"block\n^"+ahead+y+"\nend\n")
		}
	}
	// How the others begin and end.
	for _, y := range []string{"block", "end"} {
		for _, line := range []string{" " + y, "  " + y, y + " ", y + " 0", y + "\r", y + y, strings.ToUpper(y), "", " ", "  ", "\x00", y[:2], "#", y + "#"} {
			fails(t, x, head+"^"+line+"\nend\n")
			fails(t, x, head+"block\n^"+line+"\nend\n")
			fails(t, x, head+"block\n  ret\n^"+line+"\n")
		}
	}
	for _, line := range []string{"  ret", "  a = const 1", "  call f 0", "  nop", "  "} { // an instruction of no block
		fails(t, x, head+"^"+line+"\nend\n")
		fails(t, x, head+"^"+line+"\nblock\nend\n")
	}
}

// TestP1202LinesOfNoCode: lines that can be, of which Check refuses what they are.
func TestP1202LinesOfNoCode(t *testing.T) {
	x := tableOf(t, machineText)
	for line, err := range map[string]api.Errno{
		"a = nop b": api.ErrIns, "a = copy b": api.ErrIns, "a = store b": api.ErrIns, "a = spill b": api.ErrIns, "a = ret b": api.ErrIns, "a = br a b": api.ErrIns, "a = jump a": api.ErrIns, "a = a a a": api.ErrIns, "a = Move b": api.ErrIns, "a = mul a b": api.ErrIns,
		"a = add a": api.ErrIns, "al = not al al": api.ErrIns, "call f 4": api.ErrIns, "call f 99999": api.ErrIns, "a = call f 4": api.ErrIns, "ret": api.ErrIns, "jump 0": api.ErrIns, "jump 99999": api.ErrIns, "br a 0 0": api.ErrIns,
		"a = move al": api.ErrReg, "w = move a": api.ErrReg, "a = add b a": api.ErrReg, "a = add a al": api.ErrReg, "al = add al a": api.ErrReg, "d = div d a": api.ErrReg, "a = add a w": api.ErrReg,
		"spill 3 a": api.ErrSlot, "a = reload 3": api.ErrSlot, "spill 99999 a": api.ErrSlot,
	} {
		failsAt(t, x, textOf(line), 0, err)
	}
	for s, err := range map[string]api.Errno{
		head + "end\n":                                                  api.ErrBlock,
		head + "block\nend\n":                                           api.ErrBlock,
		head + "block\nblock\nend\n":                                    api.ErrBlock,
		head + "block\n  ret\nblock\nend\n":                             api.ErrBlock,
		head + "block\n  a = const 1\nend\n":                            api.ErrIns,
		head + "block\n  jump 1\nend\n":                                 api.ErrBlock,
		head + "block\n  br a 0 1\nend\n":                               api.ErrBlock,
		head + "block\n  br a 99999 0\nend\n":                           api.ErrBlock,
		"code f\nslots 10\nblock\n  ret\nend\n":                         api.ErrSlot,
		"code f\nslots 99999\nend\n":                                    api.ErrSlot,
		head + strings.Repeat("block\n", 201) + "end\n":                 api.ErrLong,
		"code f\nslots 10\n" + strings.Repeat("block\n", 201) + "end\n": api.ErrLong,
		head + strings.Repeat("block\n", 170000) + "end\n":              api.ErrLong,
		head + strings.Repeat("block\n", 200) + "end\n":                 api.ErrBlock,
		head + "block\n" + strings.Repeat("  ret\n", 25601) + "end\n":   api.ErrBlock,
		head + "block\n" + strings.Repeat("  ret\n", 25600) + "end\n":   api.ErrIns,
	} {
		failsAt(t, x, s, 0, err)
	}
	// A line that cannot be is told ahead of what Check refuses.
	for _, ahead := range []string{head + strings.Repeat("block\n", 201), head + "block\n" + strings.Repeat("  ret\n", 25601), "code f\nslots 10\nblock\n", head + "block\n  jump 9\nblock\n", head + "block\n  a = nop a\n"} {
		fails(t, x, ahead+"^  ret 0\nend\n")
		fails(t, x, ahead+"^ end\n")
		fails(t, x, ahead+"^")
	}
}

func TestP1202WrongHeads(t *testing.T) {
	x := tableOf(t, machineText)
	lines := strings.SplitAfter(head, "\n")
	for i, bad := range [][]string{
		{"code", "code ", "code f f", "code  f", " code f", "code f ", "code 1", "code f-", "Code f", "codef", "code f\r", "func f", "f", "f code", "code code f", "code é", "code f#", "machine f {", "code " + strings.Repeat("n", 21)},
		{"slots", "slots ", "slots 0 ", "slots  0", " slots 0", "slots 1 2", "slots x", "slots -1", "slots 00", "slots 01", "slots +1", "slots 100000", "slots 1000000", "slots 18446744073709551616", "slot 0", "Slots 0", "slots0", "0", "slots 0\r", "slots a", "slots -0", "regs", "regs g"},
	} {
		bad = append(bad, "", " ", "\t", "\r", "\x00", "#", "block", "end", "  ret", "  a = const 1", strings.TrimSuffix(lines[1-i], "\n"))
		ahead, behind := strings.Join(lines[:i], ""), strings.Join(lines[i+1:2], "")
		for _, line := range bad {
			fails(t, x, ahead+"^"+line+"\n"+behind+"block\n  ret\nend\n")
			fails(t, x, ahead+"^"+line+"\n"+lines[i]+behind+"end\n")
			fails(t, x, ahead+"^"+line)
		}
		fails(t, x, ahead+"^"+behind+"block\n  ret\nend\n") // it is left out
		fails(t, x, ahead+lines[i]+"^"+lines[i]+behind+"block\n  ret\nend\n")
	}
	for _, line := range []string{"regs", "params", "result g", "code f", "slots 3"} {
		fails(t, x, head+"^"+line+"\nblock\n  ret\nend\n")
	}
}

func TestP1202EarlyEnd(t *testing.T) {
	x := tableOf(t, machineText)
	for n := range small {
		failsAt(t, x, small[:n], 1+strings.Count(small[:n], "\n"), api.ErrSyntax)
	}
	fails(t, x, "^\n")
	fails(t, x, head+"^end")
	fails(t, x, head+"block\n^  ret")
}

func TestP1202BehindTheEnd(t *testing.T) {
	x := tableOf(t, machineText)
	for _, s := range []string{small, head + "end\n", textOf("jump 9")} {
		for _, behind := range []string{"\n", "\n\n", " ", "x", "x\n", "end", "end\n", "block\n", "  ret\n", "\r\n", "\x00", "#\n", small, "x\n\ny\nend\n", strings.Repeat("\n", 5000)} {
			fails(t, x, s+"^"+behind)
		}
	}
}

func TestP1202NoTable(t *testing.T) {
	for _, s := range []string{small, "", "x", strings.Repeat("x", 1<<20+1)} {
		failsAt(t, nil, s, 0, api.ErrArg)
	}
	if s := mach.Print(nil, smallCode()); s != "" {
		t.Errorf("printed %q", short(s))
	}
}

func TestP1202LongText(t *testing.T) {
	const most = 16 * api.MaxText
	x := tableOf(t, machineText)
	var b strings.Builder
	b.WriteString("\nslots 0\n")
	left := most - len("code f\nslots 0\nend\n")
	for left > 900000 { // two blocks, of which none is too long
		b.WriteString("block\n" + strings.Repeat("  a = const -1000000000\n", 20000) + "  ret\n")
		left -= 6 + 24*20000 + 6
	}
	b.WriteString("block\n")
	for left -= 6 + 6; left > 60; left -= 33 {
		b.WriteString("  a = const -1000000000000000000\n")
	}
	for left -= 15; left >= 0; left -= 15 {
		b.WriteString("  bl = const 1\n")
	}
	left += 15
	if left >= 20 {
		t.Fatalf("%d bytes are left", left)
	}
	behind := b.String() + "  ret\nend\n"
	s := "code f" + strings.Repeat("f", left) + behind
	if len(s) != most {
		t.Fatalf("%d bytes", len(s))
	}
	c, line, err := mach.Read(x, s)
	if line != 0 || err != api.OK || mach.Print(x, c) != s {
		t.Errorf("a text as long as may be: error %d at line %d", err, line)
	}
	// One byte more is told ahead of all that is wrong in it.
	failsAt(t, x, strings.Replace(s, "code f", "code ff", 1), 0, api.ErrLong)
	failsAt(t, x, s+"\n", 0, api.ErrLong)
	failsAt(t, x, strings.Repeat("x", most), 1, api.ErrSyntax)
	failsAt(t, x, strings.Repeat("x", most+1), 0, api.ErrLong)
	failsAt(t, x, strings.Repeat("\n", most), 1, api.ErrSyntax)
	failsAt(t, x, strings.Repeat("\n", most+1), 0, api.ErrLong)
	failsAt(t, x, small+strings.Repeat("\n", most-len(small)), 1+strings.Count(small, "\n"), api.ErrSyntax)
	failsAt(t, x, small+strings.Repeat("\n", most+1-len(small)), 0, api.ErrLong)
	failsAt(t, x, head+strings.Repeat(" ", most-len(head)), 3, api.ErrSyntax)
	failsAt(t, x, textOf("a = add"+strings.Repeat(" a", 500000)), 4, api.ErrSyntax)
	failsAt(t, x, textOf("a = const "+strings.Repeat("9", 1000000)), 4, api.ErrSyntax)
	failsAt(t, x, textOf(strings.Repeat("a", 1000000)+" = const 9"), 4, api.ErrSyntax)
	failsAt(t, x, textOf("call "+strings.Repeat("a", 1000000)+" 0"), 4, api.ErrSyntax)
}

// TestP1202OneByteOff: small with one byte left out, put in, or another one.
func TestP1202OneByteOff(t *testing.T) {
	x := tableOf(t, machineText)
	o := modelOf(x.Machine())
	ends := map[api.Errno]int{}
	for i := range small {
		ends[asModel(t, x, o, small[:i]+small[i+1:])]++
		for _, c := range "\x00\n\r \t-=#019abcdlgfretvwx_Z\x80\xff" {
			b := string([]byte{byte(c)})
			ends[asModel(t, x, o, small[:i]+b+small[i:])]++
			ends[asModel(t, x, o, small[:i]+b+small[i+1:])]++
		}
		if t.Failed() {
			return
		}
	}
	if ends[api.OK] < 200 || ends[api.ErrSyntax] < 10000 || ends[api.ErrIns] < 200 || ends[api.ErrReg] < 50 || ends[api.ErrSlot] < 20 || ends[api.ErrBlock] < 10 {
		t.Errorf("too few of one kind: %v", ends)
	}
}

func TestP1202AgainstModel(t *testing.T) {
	s := steps(12)
	ends := map[api.Errno]int{}
	for _, x := range tables(t) {
		g := generator{&s, modelOf(x.Machine())}
		for range 1500 {
			c := g.code()
			text := g.print(c)
			prints(t, x, c, text)
			for range s.next(3) {
				g.turn(&c)
			}
			ends[asModel(t, x, g.model, g.print(c))]++
			for range 1 + s.next(2) {
				text = g.turnText(text)
			}
			ends[asModel(t, x, g.model, text)]++
			if t.Failed() {
				return
			}
		}
	}
	for err, least := range map[api.Errno]int{api.OK: 2000, api.ErrSyntax: 3000, api.ErrReg: 100, api.ErrIns: 500, api.ErrBlock: 300, api.ErrSlot: 100, api.ErrLong: 50} {
		if ends[err] < least {
			t.Errorf("%d texts end with %d: too few", ends[err], err)
		}
	}
}

// TestP1202Great: code as great as can be, that of its text too great to be read.
func TestP1202Great(t *testing.T) {
	x := tableOf(t, machineText)
	l := append(many(25599, api.Ins{Kind: api.KConst, D: 4, N: 5}), api.Ins{Kind: api.KRet})
	c := api.Code{Name: "f", Slots: 9, Blocks: many(200, l)}
	is(t, x, "great", c, fine)
	c.Blocks = many(3, l)
	text := mach.Print(x, c)
	if want := "code f\nslots 9\n" + strings.Repeat("block\n"+strings.Repeat("  bl = const 5\n", 25599)+"  ret\n", 3) + "end\n"; text != want {
		t.Errorf("printed %q", short(text))
	}
	failsAt(t, x, text, 0, api.ErrLong)
	c.Blocks = c.Blocks[:2]
	prints(t, x, c, mach.Print(x, c))
	// What need not be gone over to be refused is not.
	args := make([]int, 1<<20)
	great := strings.Repeat("n", 1<<24)
	calls := many(25600, api.Ins{Kind: api.KOp, Name: "add", Args: args})
	is(t, x, "blocks", api.Code{Name: "f", Blocks: many(1<<20, calls)}, answer{0, 0, api.ErrLong})
	is(t, x, "instructions", api.Code{Name: "f", Blocks: many(200, many(25601, calls[0]))}, answer{0, 0, api.ErrBlock})
	is(t, x, "operands", api.Code{Name: "f", Blocks: many(200, calls)}, answer{0, 0, api.ErrIns})
	is(t, x, "name", api.Code{Name: great, Blocks: many(200, calls)}, answer{0, 0, api.ErrName})
	is(t, x, "call", api.Code{Name: "f", Blocks: many(200, many(25600, api.Ins{Kind: api.KCall, Name: great}))}, answer{0, 0, api.ErrIns})
}
