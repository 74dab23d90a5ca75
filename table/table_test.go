package table_test

import (
	"fmt"
	"math"
	"reflect"
	"slices"
	"strings"
	"sync"
	"testing"

	"pigeonhole/api"
	"pigeonhole/desc"
	"pigeonhole/mdcheck"
	"pigeonhole/parser"
	"pigeonhole/table"
)

// goodText is a machine that is taken. Its registers are, from 0 on: rax eax ax al ah, rbx bx bl bh, c, d, e f g.
const goodText = `
machine m {
  reg rax 64 { reg eax 32 at 0 { reg ax 16 at 0 { reg al 8 at 0 reg ah 8 at 8 } } }
  reg rbx 64 { reg bx 16 at 16 { reg bl 8 at 0 reg bh 8 at 8 } }
  reg c 64
  reg d 64
  reg e 16 { reg f 16 at 0 { reg g 16 at 0 } }
  class r = d c rbx rax
  class x = bx g ax f
  class q = bh al bl ah
  op add r = r r tie 0
  op div r:rax = r:d r:rax tie 1 clob c bl
  op not q = q clob ah bx
  op lt x = x:g x:bx clob al e
  op xor r:c = r r:c tie 1 clob d rax
  args rax bl d
  result rax
  saved d bh bl f c
  slots 10
}`

// good is the machine of goodText, anew on each call.
func good(t *testing.T) api.Machine {
	t.Helper()
	m, line, col, err := parser.Parse(goodText)
	if err != api.OK {
		t.Fatalf("the description: error %d at %d %d", err, line, col)
	}
	return m
}

// made is the table of m, turned.
func made(t *testing.T, m api.Machine, turns ...func(m *api.Machine)) *table.Table {
	t.Helper()
	for _, turn := range turns {
		turn(&m)
	}
	x, err := table.Make(m)
	if err != api.OK || x == nil {
		t.Fatalf("error %d of %s", err, desc.Print(m))
	}
	return x
}

// same tells whether a list is as it should be.
func same(t *testing.T, what string, got []int, want ...int) {
	t.Helper()
	if !slices.Equal(got, want) {
		t.Errorf("%s: %v, want %v", what, got, want)
	}
}

func at(root, at, width int) api.Place { return api.Place{Root: root, At: at, Width: width} }

// nones is numbers that are none of n things.
func nones(n int) []int {
	return []int{-1, -2, -64, n, n + 1, n + 64, 65535, 65536, 65536 + 1, 1 << 31, 1 << 32, 1<<32 + 1, -1 << 32, math.MaxInt, math.MinInt, math.MinInt + 1}
}

func TestP701Make(t *testing.T) {
	if x, err := table.Make(good(t)); x == nil || err != api.OK {
		t.Errorf("good: error %d", err)
	}
	for _, x := range []struct {
		err  api.Errno
		turn func(m *api.Machine)
	}{
		{api.ErrName, func(m *api.Machine) { *m = api.Machine{} }},
		{api.ErrName, func(m *api.Machine) { m.Name = "slots" }},
		{api.ErrArg, func(m *api.Machine) { m.Regs = nil }},
		{api.ErrDepth, func(m *api.Machine) { m.Regs = append(m.Regs, deep(7)) }},
		{api.ErrLong, func(m *api.Machine) { m.Regs = wide(201) }},
		{api.ErrWidth, func(m *api.Machine) { m.Regs[0].Width = 65 }},
		{api.ErrAlias, func(m *api.Machine) { m.Regs[1].Subs[0].Subs[1].At = 7 }},
		{api.ErrLong, func(m *api.Machine) { m.Classes = make([]api.Class, 65) }},
		{api.ErrName, func(m *api.Machine) { m.Classes[2].Name = "al" }},
		{api.ErrClass, func(m *api.Machine) { m.Classes[2].Regs[3] = "ax" }},
		{api.ErrClass, func(m *api.Machine) { m.Classes[2].Regs = nil }},
		{api.ErrLong, func(m *api.Machine) { m.Ops = make([]api.Op, 65) }},
		{api.ErrName, func(m *api.Machine) { m.Ops[2].Name = "adc" }},
		{api.ErrOper, func(m *api.Machine) { m.Ops[2].Tie = 1 }},
		{api.ErrOper, func(m *api.Machine) { m.Ops[3].Uses[1].Fix = "zz" }},
		{api.ErrConv, func(m *api.Machine) { m.Result = "" }},
		{api.ErrConv, func(m *api.Machine) { m.Saved = append(m.Saved, "bx") }},
		{api.ErrConv, func(m *api.Machine) { m.Args = []string{"e"} }},
		{api.ErrConv, func(m *api.Machine) { m.Slots = 1001 }},
		{api.ErrSpill, func(m *api.Machine) { m.Classes = append(m.Classes, api.Class{Name: "one", Regs: []string{"c"}}) }},
		{api.ErrSpill, func(m *api.Machine) { m.Ops[1].Clob = []string{"al"} }},
	} {
		m := good(t)
		x.turn(&m)
		if got := mdcheck.Check(m); got != x.err {
			t.Errorf("the test's own machine has error %d, want %d: %s", got, x.err, desc.Print(m))
		}
		if got, err := table.Make(m); got != nil || err != x.err {
			t.Errorf("%v, error %d, want none, error %d: %s", got, err, x.err, desc.Print(m))
		}
	}
}

// deep is a register with that many in all, each within the one ahead of it.
func deep(n int) api.Reg {
	r := api.Reg{Name: fmt.Sprint("z", n), Width: 8}
	if n > 1 {
		r.Subs = []api.Reg{deep(n - 1)}
	}
	return r
}

// wide is n outer registers.
func wide(n int) []api.Reg {
	l := make([]api.Reg, n)
	for i := range l {
		l[i] = api.Reg{Name: fmt.Sprint("o", i), Width: 8}
	}
	return l
}

func TestP702Registers(t *testing.T) {
	x := made(t, good(t))
	names := strings.Fields("rax eax ax al ah rbx bx bl bh c d e f g")
	places := []api.Place{at(0, 0, 64), at(0, 0, 32), at(0, 0, 16), at(0, 0, 8), at(0, 8, 8), at(1, 0, 64), at(1, 16, 16), at(1, 16, 8), at(1, 24, 8), at(2, 0, 64), at(3, 0, 64), at(4, 0, 16), at(4, 0, 16), at(4, 0, 16)}
	if x.Regs() != len(names) || x.Roots() != 5 {
		t.Errorf("%d registers, %d outer ones", x.Regs(), x.Roots())
	}
	for r, name := range names {
		if x.Name(r) != name || x.Place(r) != places[r] {
			t.Errorf("register %d: %s, %v, want %s, %v", r, x.Name(r), x.Place(r), name, places[r])
		}
		if n, ok := x.Reg(name); n != r || !ok {
			t.Errorf("%s: %d, %v, want %d", name, n, ok, r)
		}
	}
	for _, name := range []string{"", "r", "x", "add", "m", "RAX", "rax ", " rax", "ra", "raxx", "0", "slots", "\x00", strings.Repeat("a", 70000)} {
		if n, ok := x.Reg(name); n != 0 || ok {
			t.Errorf("%.30q: %d, %v", name, n, ok)
		}
	}
	for _, r := range nones(len(names)) {
		if x.Name(r) != "" || x.Place(r) != (api.Place{}) {
			t.Errorf("register %d: %q, %v", r, x.Name(r), x.Place(r))
		}
	}
}

func TestP702Laps(t *testing.T) {
	x := made(t, good(t))
	want := [][]int{{0, 1, 2, 3, 4}, {0, 1, 2, 3, 4}, {0, 1, 2, 3, 4}, {0, 1, 2, 3}, {0, 1, 2, 4}, {5, 6, 7, 8}, {5, 6, 7, 8}, {5, 6, 7}, {5, 6, 8}, {9}, {10}, {11, 12, 13}, {11, 12, 13}, {11, 12, 13}}
	for a, l := range want {
		same(t, fmt.Sprint("those that lap with ", a), x.Laps(a), l...)
		for b := range want {
			if x.Lap(a, b) != slices.Contains(l, b) {
				t.Errorf("%d laps with %d: %v", a, b, x.Lap(a, b))
			}
		}
		for _, b := range nones(len(want)) {
			if x.Lap(a, b) || x.Lap(b, a) {
				t.Errorf("%d laps with %d", a, b)
			}
		}
	}
	for _, r := range nones(len(want)) {
		same(t, fmt.Sprint("those that lap with ", r), x.Laps(r))
		if x.Lap(r, r) {
			t.Errorf("%d, which is none, laps with itself", r)
		}
	}
}

func TestP702LapsExample(t *testing.T) {
	m, _, _, _ := parser.Parse("machine m { reg rax 64 { reg eax 32 at 0 { reg ax 16 at 0 { reg al 8 at 0 reg ah 8 at 8 } } } class b = al ah result al slots 0 }")
	x := made(t, m)
	ax, _ := x.Reg("ax")
	al, _ := x.Reg("al")
	same(t, "ax", x.Laps(ax), 0, 1, 2, 3, 4)
	same(t, "al", x.Laps(al), 0, 1, 2, 3)
}

func TestP702Classes(t *testing.T) {
	x := made(t, good(t))
	want := []struct {
		name  string
		width int
		l     []int
	}{{"r", 64, []int{10, 9, 5, 0}}, {"x", 16, []int{6, 13, 2, 12}}, {"q", 8, []int{8, 3, 7, 4}}}
	for k, w := range want {
		if n, ok := x.Class(w.name); n != k || !ok {
			t.Errorf("%s: %d, %v, want %d", w.name, n, ok, k)
		}
		same(t, w.name, x.Of(k), w.l...)
		if x.Width(k) != w.width {
			t.Errorf("%s: %d bits, want %d", w.name, x.Width(k), w.width)
		}
		for r := range x.Regs() {
			if x.In(k, r) != slices.Contains(w.l, r) {
				t.Errorf("%s has %d: %v", w.name, r, x.In(k, r))
			}
		}
		for _, r := range nones(x.Regs()) {
			if x.In(k, r) {
				t.Errorf("%s has %d", w.name, r)
			}
		}
	}
	for _, name := range []string{"", "R", "rax", "add", "m", "rx", "r ", "class"} {
		if n, ok := x.Class(name); n != 0 || ok {
			t.Errorf("%q: %d, %v", name, n, ok)
		}
	}
	for _, k := range nones(len(want)) {
		same(t, fmt.Sprint("class ", k), x.Of(k))
		if x.Width(k) != 0 || x.In(k, 0) || x.In(k, 3) || x.In(k, -1) || x.In(k, k) {
			t.Errorf("class %d: %d bits", k, x.Width(k))
		}
	}
}

func TestP702Operations(t *testing.T) {
	x := made(t, good(t))
	for o, w := range []struct {
		name string
		tie  int
		clob []int
		may  [][]int
	}{
		{"add", 0, nil, [][]int{{0, 5, 9, 10}, {0, 5, 9, 10}, {0, 5, 9, 10}}},
		// What is destroyed takes nothing from the uses, nor from what must be one of them.
		{"div", 1, []int{9, 7}, [][]int{{0}, {10}, {0}}},
		{"not", -1, []int{4, 6}, [][]int{{3}, {3, 4, 7, 8}}},
		{"lt", -1, []int{3, 11}, [][]int{{6}, {13}, {6}}},
		{"xor", 1, []int{10, 0}, [][]int{{9}, {0, 5, 9, 10}, {9}}},
	} {
		if n, ok := x.Op(w.name); n != o || !ok {
			t.Errorf("%s: %d, %v, want %d", w.name, n, ok, o)
		}
		if x.Tie(o) != w.tie {
			t.Errorf("%s: tie %d, want %d", w.name, x.Tie(o), w.tie)
		}
		same(t, w.name+" destroys", x.Clob(o), w.clob...)
		for k := -2; k < 5; k++ {
			for r := -2; r < x.Regs()+2; r++ {
				want := 0 <= k && k < len(w.may) && slices.Contains(w.may[k], r)
				if x.May(o, k, r) != want {
					t.Errorf("%s: operand %d, register %d: %v", w.name, k, r, !want)
				}
			}
			for _, r := range nones(x.Regs()) {
				if x.May(o, k, r) {
					t.Errorf("%s: operand %d may be %d", w.name, k, r)
				}
			}
		}
		for _, k := range nones(3) {
			if x.May(o, k, w.may[0][0]) {
				t.Errorf("%s: operand %d", w.name, k)
			}
		}
	}
	for _, name := range []string{"", "sub", "ADD", "r", "rax", "ad", "addd", "op"} {
		if n, ok := x.Op(name); n != 0 || ok {
			t.Errorf("%q: %d, %v", name, n, ok)
		}
	}
	for _, o := range nones(5) {
		same(t, fmt.Sprint("operation ", o), x.Clob(o))
		if x.Tie(o) != -1 || x.May(o, 0, 0) || x.May(o, 1, 10) || x.May(o, o, o) {
			t.Errorf("operation %d: tie %d", o, x.Tie(o))
		}
	}
}

// TestP702Destroyed: what laps with something destroyed is no Def, around it as within it; what lies beside it is.
func TestP702Destroyed(t *testing.T) {
	for _, w := range []struct {
		clob     string
		not, add string // what the Def of an operation over q, over r may be
	}{
		{"", "bh al bl ah", "d c rbx rax"}, {"al", "bh bl ah", "d c rbx"}, {"ax", "bh bl", "d c rbx"}, {"eax", "bh bl", "d c rbx"}, {"rax", "bh bl", "d c rbx"},
		{"bl", "bh al ah", "d c rax"}, {"bx", "al ah", "d c rax"}, {"rbx", "al ah", "d c rax"}, {"al bl", "bh ah", "d c"}, {"ah bx d", "al", "c"}, {"e f g c", "bh al bl ah", "d rbx rax"},
	} {
		x := made(t, good(t), func(m *api.Machine) {
			clob := strings.Fields(w.clob)
			m.Ops = []api.Op{
				{Name: "not", Def: api.Oper{Class: "q"}, Uses: []api.Oper{{Class: "q"}}, Tie: 0, Clob: clob},
				{Name: "add", Def: api.Oper{Class: "r"}, Uses: []api.Oper{{Class: "r"}, {Class: "r"}}, Tie: -1, Clob: clob},
			}
		})
		for o, want := range []string{w.not, w.add} {
			for r := range x.Regs() {
				may := slices.Contains(strings.Fields(want), x.Name(r))
				if x.May(o, 0, r) != may {
					t.Errorf("operation %d destroys %s: the Def may be %s: %v", o, w.clob, x.Name(r), !may)
				}
				if x.May(o, 1, r) != x.In(2-2*o, r) {
					t.Errorf("operation %d destroys %s: the first use may be %s: %v", o, w.clob, x.Name(r), x.May(o, 1, r))
				}
			}
		}
	}
}

func TestP702Convention(t *testing.T) {
	x := made(t, good(t))
	same(t, "arguments", x.Args(), 0, 7, 10)
	same(t, "saved", x.Saved(), 10, 8, 7, 12, 9)
	if x.Result() != 0 || x.Slots() != 10 {
		t.Errorf("result %d, %d slots", x.Result(), x.Slots())
	}
	for _, w := range []struct{ args, result, saved, survive string }{
		{"", "al", "", ""},
		// The pieces of bx are saved each, bx is within none of them.
		{"c", "d", "bl bh", "bl bh"}, {"d c", "bh", "rax", "rax eax ax al ah"}, {"al ah", "c", "ax bl", "ax al ah bl"}, {"rbx d", "bl", "bh al", "bh al"},
		{"f", "g", "rbx eax", "rbx bx bl bh eax ax al ah"}, {"rax", "rax", "f", "e f g"}, {"rax", "rax", "g", "e f g"}, {"", "rax", "c d e rbx", "c d e f g rbx bx bl bh"}, {"", "rax", "bx", "bx bl bh"},
	} {
		x := made(t, good(t), func(m *api.Machine) {
			m.Args, m.Result, m.Saved, m.Slots = strings.Fields(w.args), w.result, strings.Fields(w.saved), 1000
		})
		same(t, "arguments "+w.args, x.Args(), numbers(x, w.args)...)
		same(t, "saved "+w.saved, x.Saved(), numbers(x, w.saved)...)
		if x.Name(x.Result()) != w.result || x.Slots() != 1000 {
			t.Errorf("result %d, %d slots, want %s, 1000", x.Result(), x.Slots(), w.result)
		}
		for r := range x.Regs() {
			if want := slices.Contains(strings.Fields(w.survive), x.Name(r)); x.Survives(r) != want {
				t.Errorf("saved %s: %s survives: %v", w.saved, x.Name(r), !want)
			}
		}
		for _, r := range nones(x.Regs()) {
			if x.Survives(r) {
				t.Errorf("%d survives", r)
			}
		}
	}
}

// numbers is the numbers of the registers of those names.
func numbers(x *table.Table, names string) []int {
	var l []int
	for _, s := range strings.Fields(names) {
		r, _ := x.Reg(s)
		l = append(l, r)
	}
	return l
}

// TestP702Names: classes and operations are named by themselves, a machine as it likes.
func TestP702Names(t *testing.T) {
	m, _, _, _ := parser.Parse("machine add { reg not 8 reg eq 8 class add = eq not class lt = not eq op lt add = add add op add lt = lt lt result not slots 0 }")
	x := made(t, m)
	for _, w := range []struct {
		name           string
		reg, class, op int
	}{{"not", 0, -1, -1}, {"eq", 1, -1, -1}, {"add", -1, 0, 1}, {"lt", -1, 1, 0}} {
		for i, of := range []func(string) (int, bool){x.Reg, x.Class, x.Op} {
			want := []int{w.reg, w.class, w.op}[i]
			if n, ok := of(w.name); ok != (want >= 0) || n != max(want, 0) {
				t.Errorf("%s: %d, %v, want %d", w.name, n, ok, want)
			}
		}
	}
	if x.Slots() != 0 || x.Machine().Name != "add" || x.Machine().Slots != 0 {
		t.Errorf("%d slots of %s", x.Slots(), x.Machine().Name)
	}
}

// TestP702Most: as much as there may be of all.
func TestP702Most(t *testing.T) {
	m := api.Machine{Name: "m", Regs: wide(100), Slots: 1000, Result: "o99"}
	for i := range m.Regs {
		m.Regs[i].Subs = []api.Reg{{Name: fmt.Sprint("i", i), Width: 4, At: 4}}
	}
	var inner, outer []string
	for i := range 64 {
		inner, outer = append(inner, fmt.Sprint("i", i)), append(outer, fmt.Sprint("o", 98-i))
	}
	for i := range 63 {
		m.Classes = append(m.Classes, api.Class{Name: fmt.Sprint("k", i), Regs: [][]string{inner, outer}[i%2]})
	}
	m.Classes = append(m.Classes, api.Class{Name: "last", Regs: []string{"o99", "o0"}})
	m.Ops = []api.Op{{Name: "not", Def: api.Oper{Class: "k1"}, Uses: []api.Oper{{Class: "k1"}}, Tie: -1, Clob: inner}}
	m.Args, m.Saved = inner[:16], outer
	x := made(t, m)
	if x.Regs() != 200 || x.Roots() != 100 || x.Slots() != 1000 || x.Name(199) != "i99" || x.Place(199) != (api.Place{Root: 99, At: 4, Width: 4}) || x.Result() != 198 || x.Name(200) != "" {
		t.Error("registers")
	}
	if k, ok := x.Class("last"); k != 63 || !ok || !slices.Equal(x.Of(63), []int{198, 0}) || x.Width(62) != 4 || x.Width(63) != 8 || len(x.Of(62)) != 64 || !x.In(62, 127) || x.In(62, 129) {
		t.Error("classes")
	}
	if l := x.Clob(0); len(l) != 64 || l[63] != 127 || x.May(0, 0, 126) || !x.May(0, 0, 128) || !x.May(0, 1, 126) {
		t.Error("operations")
	}
	if l := x.Saved(); len(l) != 64 || l[0] != 196 || l[63] != 70 || !x.Survives(197) || x.Survives(198) || x.Survives(69) || !slices.Equal(x.Laps(199), []int{198, 199}) || len(x.Args()) != 16 {
		t.Error("convention")
	}
	if desc.Print(x.Machine()) != desc.Print(m) {
		t.Error("the machine")
	}
}

func TestP702Machine(t *testing.T) {
	m := good(t)
	if got := made(t, m).Machine(); !reflect.DeepEqual(got, m) {
		t.Errorf("%+v, want %+v", got, m)
	}
	// Nothing at all of what may be left away.
	m, _, _, _ = parser.Parse("machine m { reg a 8 reg b 8 class k = a b result a slots 0 }")
	x := made(t, m)
	if got := x.Machine(); !reflect.DeepEqual(got, m) {
		t.Errorf("%+v, want %+v", got, m)
	}
	same(t, "arguments", x.Args())
	same(t, "saved", x.Saved())
	same(t, "destroyed", x.Clob(0))
	if x.Tie(0) != -1 || x.Survives(0) || x.May(0, 0, 0) || x.Slots() != 0 {
		t.Error("operations or survivors of a machine that has none")
	}
}

// TestP703Kept: whatever is done to what was handed in, with the spare room of its lists, the table tells the same.
func TestP703Kept(t *testing.T) {
	m := good(t)
	roomy(reflect.ValueOf(&m).Elem())
	before := fmt.Sprintf("%#v", m)
	x := made(t, m)
	want := told(made(t, good(t)))
	if got := told(x); got != want {
		t.Fatalf("a machine with spare room: %s", differ(got, want))
	}
	if fmt.Sprintf("%#v", m) != before {
		t.Fatal("what was handed in is changed")
	}
	spoil(reflect.ValueOf(&m).Elem())
	if fmt.Sprintf("%#v", m) == before {
		t.Fatal("the test spoils nothing")
	}
	if got := told(x); got != want {
		t.Errorf("the machine is spoilt: %s", differ(got, want))
	}
}

// TestP703New: whatever is done to what was answered, the table tells the same.
func TestP703New(t *testing.T) {
	x := made(t, good(t))
	want := told(x)
	for i := range 16 {
		for k, two := range [][2][]int{{x.Laps(i), x.Laps(i)}, {x.Of(i), x.Of(i)}, {x.Clob(i), x.Clob(i)}, {x.Args(), x.Args()}, {x.Saved(), x.Saved()}} {
			other := slices.Clone(two[1])
			spoil(reflect.ValueOf(&two[0]).Elem())
			if !slices.Equal(two[1], other) {
				t.Fatalf("two answers of %d share memory: list %d", i, k)
			}
		}
	}
	if got := told(x); got != want {
		t.Fatalf("the lists are spoilt: %s", differ(got, want))
	}
	m, other := x.Machine(), x.Machine()
	spoil(reflect.ValueOf(&m).Elem())
	if !reflect.DeepEqual(other, good(t)) {
		t.Error("two answers of Machine share memory")
	}
	if got := told(x); got != want {
		t.Errorf("the machine is spoilt: %s", differ(got, want))
	}
	spoil(reflect.ValueOf(&other).Elem())
	if y := made(t, x.Machine()); told(y) != want {
		t.Errorf("the table of the table's machine: %s", differ(told(y), want))
	}
}

// TestP703Apart: no two lists of one answer share memory, each one's spare room neither.
func TestP703Apart(t *testing.T) {
	m := good(t)
	m.Ops[2].Clob, m.Saved = m.Saved[:1:1], m.Saved[1:]
	m.Ops[1].Uses = m.Ops[0].Uses
	m.Ops[1].Def, m.Ops[1].Tie = m.Ops[0].Def, 0
	x := made(t, m)
	got := x.Machine()
	got.Ops[2].Clob = append(got.Ops[2].Clob, "zz")
	got.Ops[2].Clob[0] = "zz"
	got.Ops[1].Uses[0].Class = "zz"
	if !slices.Equal(got.Saved, m.Saved) || !slices.Equal(got.Ops[0].Uses, m.Ops[0].Uses) {
		t.Error("lists of one answer share memory")
	}
}

// TestP703Other: a table knows nothing of another one.
func TestP703Other(t *testing.T) {
	x := made(t, good(t))
	want := told(x)
	small, _, _, _ := parser.Parse("machine m { reg rax 8 reg b 8 class r = b rax op add r = r r result b slots 3 }")
	y := made(t, small)
	if table.Make(api.Machine{}); told(x) != want {
		t.Error("another table changed the first one")
	}
	if n, ok := y.Reg("eax"); n != 0 || ok || y.Regs() != 2 || y.Tie(1) != -1 || !slices.Equal(y.Of(0), []int{1, 0}) {
		t.Error("the second one knows of the first one")
	}
}

func TestP703AtOneTime(t *testing.T) {
	x := made(t, good(t))
	want := told(x)
	var wg sync.WaitGroup
	for range 8 {
		wg.Go(func() {
			for range 5 {
				y, err := table.Make(x.Machine())
				if err != api.OK || told(x) != want || told(y) != want {
					t.Error("another answer")
					return
				}
			}
		})
	}
	wg.Wait()
}

// TestP702Zero: the table of no machine has nothing, and panics nowhere.
func TestP702Zero(t *testing.T) {
	var x table.Table
	for _, n := range append(nones(0), 0, 1) {
		if x.Name(n) != "" || x.Place(n) != (api.Place{}) || x.Lap(n, n) || len(x.Laps(n)) != 0 || x.In(n, n) || len(x.Of(n)) != 0 || x.Width(n) != 0 || x.May(n, n, n) || x.Tie(n) != -1 || len(x.Clob(n)) != 0 || x.Survives(n) {
			t.Errorf("something of %d", n)
		}
	}
	for _, of := range []func(string) (int, bool){x.Reg, x.Class, x.Op} {
		if n, ok := of(""); n != 0 || ok {
			t.Error("something of the empty name")
		}
	}
	if x.Regs() != 0 || x.Roots() != 0 || x.Slots() != 0 || x.Result() != 0 || len(x.Args()) != 0 || len(x.Saved()) != 0 || !reflect.DeepEqual(x.Machine(), api.Machine{}) {
		t.Error("something of nothing")
	}
}
