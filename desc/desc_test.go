package desc_test

import (
	"fmt"
	"math"
	"reflect"
	"regexp"
	"strings"
	"sync"
	"testing"
	"unsafe"

	"pigeonhole/api"
	"pigeonhole/desc"
)

const small = `machine m {
  reg a 16 {
    reg al 8 at 0
    reg ah 8 at 8 {
      reg top 1 at 7
    }
  }
  reg b 16
  reg c 32 {
    reg cl 16 at 0
  }
  class g = a b
  class h = al ah top
  op add g = g g tie 0
  op div g:a = g:a g tie 1 clob b c
  op not h = h
  args a b
  result a
  saved c
  slots 20
}
`

// smallMachine is the machine of small, anew on each call.
func smallMachine() api.Machine {
	return api.Machine{
		Name: "m",
		Regs: []api.Reg{
			{Name: "a", Width: 16, Subs: []api.Reg{
				{Name: "al", Width: 8},
				{Name: "ah", Width: 8, At: 8, Subs: []api.Reg{{Name: "top", Width: 1, At: 7}}},
			}},
			{Name: "b", Width: 16},
			{Name: "c", Width: 32, Subs: []api.Reg{{Name: "cl", Width: 16}}},
		},
		Classes: []api.Class{
			{Name: "g", Regs: []string{"a", "b"}},
			{Name: "h", Regs: []string{"al", "ah", "top"}},
		},
		Ops: []api.Op{
			{Name: "add", Def: api.Oper{Class: "g"}, Uses: []api.Oper{{Class: "g"}, {Class: "g"}}},
			{Name: "div", Def: api.Oper{Class: "g", Fix: "a"}, Uses: []api.Oper{{Class: "g", Fix: "a"}, {Class: "g"}}, Tie: 1, Clob: []string{"b", "c"}},
			{Name: "not", Def: api.Oper{Class: "h"}, Uses: []api.Oper{{Class: "h"}}, Tie: -1},
		},
		Args: []string{"a", "b"}, Result: "a", Saved: []string{"c"}, Slots: 20,
	}
}

// prints tells whether m is plain and printed as want.
func prints(t *testing.T, what string, m api.Machine, want string) {
	t.Helper()
	if !desc.Plain(m) {
		t.Errorf("%s: not plain", what)
	}
	if got := desc.Print(m); got != want {
		t.Errorf("%s: printed\n%swant\n%s", what, got, want)
	}
}

// plain tells whether m is plain and printed as the model prints it.
func plain(t *testing.T, what string, m api.Machine) {
	t.Helper()
	prints(t, what, m, modelPrint(m))
}

// notPlain tells whether m is not plain, and not printed.
func notPlain(t *testing.T, what string, m api.Machine) {
	t.Helper()
	if desc.Plain(m) {
		t.Errorf("%s: plain", what)
	}
	if got := desc.Print(m); got != "" {
		t.Errorf("%s: printed %d bytes", what, len(got))
	}
}

// modelLines is the lines of registers: each with its own lines within it.
func modelLines(l []api.Reg, blanks string, outer bool) string {
	s := ""
	for _, r := range l {
		s += fmt.Sprintf("%sreg %s %d", blanks, r.Name, r.Width)
		if !outer {
			s += fmt.Sprintf(" at %d", r.At)
		}
		if len(r.Subs) > 0 {
			s += " {\n" + modelLines(r.Subs, blanks+"  ", false) + blanks + "}"
		}
		s += "\n"
	}
	return s
}

// modelPrint is the text of m, plain or not.
func modelPrint(m api.Machine) string {
	behind := func(word string, l []string) string {
		if len(l) == 0 {
			return ""
		}
		return word + " " + strings.Join(l, " ")
	}
	oper := func(o api.Oper) string { return strings.TrimSuffix(o.Class+":"+o.Fix, ":") }
	s := "machine " + m.Name + " {\n" + modelLines(m.Regs, "  ", true)
	for _, c := range m.Classes {
		s += "  class " + c.Name + " = " + strings.Join(c.Regs, " ") + "\n"
	}
	for _, o := range m.Ops {
		s += "  op " + o.Name + " " + oper(o.Def) + " ="
		for _, u := range o.Uses {
			s += " " + oper(u)
		}
		s += map[int]string{-1: "", 0: " tie 0", 1: " tie 1"}[o.Tie] + behind(" clob", o.Clob) + "\n"
	}
	for _, line := range []string{behind("args", m.Args), strings.TrimSuffix("result "+m.Result, "result "), behind("saved", m.Saved)} {
		if line != "" {
			s += "  " + line + "\n"
		}
	}
	return s + fmt.Sprintf("  slots %d\n}\n", m.Slots)
}

// modelDepth is how deep the deepest register of l is, whose lists do not hold themselves.
func modelDepth(l []api.Reg) int {
	deepest := 0
	for _, r := range l {
		deepest = max(deepest, 1+modelDepth(r.Subs))
	}
	return min(deepest, 7)
}

var (
	nameForm = regexp.MustCompile(`\A[A-Za-z_][A-Za-z_0-9]{0,19}\z`)
	words    = []string{"machine", "reg", "at", "class", "op", "tie", "clob", "args", "result", "saved", "slots"}
)

func modelName(s string) bool {
	for _, w := range words {
		if s == w {
			return false
		}
	}
	return nameForm.MatchString(s)
}

// parts is the places of m's parts, by what is asked of them. (Each list of registers by itself.)
type parts struct {
	names, fixes []*string
	numbers      []*int
	ats, ties    []*int
	uses         []*[]api.Oper
	regs         []*[]api.Reg
	lists        []*[]string
	classRegs    []*[]string
}

func partsOf(m *api.Machine) *parts {
	p := &parts{names: []*string{&m.Name}, fixes: []*string{&m.Result}, numbers: []*int{&m.Slots}, lists: []*[]string{&m.Args, &m.Saved}}
	p.addRegs(&m.Regs, true)
	for i := range m.Classes {
		p.names = append(p.names, &m.Classes[i].Name)
		p.classRegs = append(p.classRegs, &m.Classes[i].Regs)
	}
	for i := range m.Ops {
		o := &m.Ops[i]
		p.names = append(p.names, &o.Name, &o.Def.Class)
		p.fixes = append(p.fixes, &o.Def.Fix)
		p.ties = append(p.ties, &o.Tie)
		p.uses = append(p.uses, &o.Uses)
		p.lists = append(p.lists, &o.Clob)
		for k := range o.Uses {
			p.names = append(p.names, &o.Uses[k].Class)
			p.fixes = append(p.fixes, &o.Uses[k].Fix)
		}
	}
	for _, l := range append(p.lists, p.classRegs...) {
		for i := range *l {
			p.names = append(p.names, &(*l)[i])
		}
	}
	return p
}

func (p *parts) addRegs(l *[]api.Reg, outer bool) {
	p.regs = append(p.regs, l)
	for i := range *l {
		r := &(*l)[i]
		p.names = append(p.names, &r.Name)
		p.numbers = append(p.numbers, &r.Width)
		if outer {
			p.ats = append(p.ats, &r.At)
		} else {
			p.numbers = append(p.numbers, &r.At)
		}
		p.addRegs(&r.Subs, false)
	}
}

// modelPlain is Plain, asked part by part; m's lists do not hold themselves.
func modelPlain(m api.Machine) bool {
	p := partsOf(&m)
	ok := modelDepth(m.Regs) < 7 && len(m.Classes) <= 200 && len(m.Ops) <= 200
	for _, s := range p.names {
		ok = ok && modelName(*s)
	}
	for _, s := range p.fixes {
		ok = ok && (*s == "" || modelName(*s))
	}
	for _, n := range p.numbers {
		ok = ok && *n >= 0 && *n < 1000000
	}
	for _, n := range p.ats {
		ok = ok && *n == 0
	}
	for _, n := range p.ties {
		ok = ok && (*n == -1 || *n == 0 || *n == 1)
	}
	for _, l := range p.uses {
		ok = ok && (len(*l) == 1 || len(*l) == 2)
	}
	for _, l := range p.regs {
		ok = ok && len(*l) <= 200
	}
	for _, l := range p.lists {
		ok = ok && len(*l) <= 200
	}
	for _, l := range p.classRegs {
		ok = ok && len(*l) >= 1 && len(*l) <= 200
	}
	return ok
}

// deepReg is a register that is as many deep as is said, of one register on each way down.
func deepReg(deep int) api.Reg {
	r := api.Reg{Name: "r", Width: 1}
	for range deep - 1 {
		r = api.Reg{Name: "r", Width: 1, Subs: []api.Reg{r}}
	}
	return r
}

func many[T any](n int, x T) []T {
	l := make([]T, n)
	for i := range l {
		l[i] = x
	}
	return l
}

func TestP301Ordinary(t *testing.T) {
	prints(t, "small", smallMachine(), small)
	plain(t, "least", api.Machine{Name: "m"})
	plain(t, "nothing but empty lists", api.Machine{Name: "m", Regs: []api.Reg{}, Classes: []api.Class{}, Ops: []api.Op{}, Args: []string{}, Saved: []string{}})
	notPlain(t, "the zero machine", api.Machine{})
	// What is asked of a description by others is not asked here: names that stand for nothing, or for two things.
	m := smallMachine()
	for _, s := range partsOf(&m).names {
		*s = "x"
	}
	plain(t, "one name alone", m)
}

func TestP301Names(t *testing.T) {
	good := []string{"a", "Z", "_", "_9", "x0", "Machine", "REG", "regs", "re", "machin", "slot", "at1", "_at", "tiE", "class_", strings.Repeat("n", 20), "_" + strings.Repeat("9", 19)}
	bad := append([]string{"", " ", "\n", "1", "1a", "0", "a b", " a", "a ", "a\n", "\na", "a#", "a#b", "#a", "a\x00", "a,b", "{", "}", "=", ":", "a:b", "a=", "é", "aé", "a\xff", "-1", "a-b", "a.b", "machine ", strings.Repeat("n", 21), "a" + strings.Repeat("0", 20), strings.Repeat("n", api.MaxText+1), strings.Repeat(" ", 30) + "a"}, words...)
	m := smallMachine()
	n := len(partsOf(&m).names)
	if n != 31 {
		t.Fatalf("%d names", n)
	}
	for i := range n {
		for _, s := range good {
			m := smallMachine()
			*partsOf(&m).names[i] = s
			plain(t, fmt.Sprintf("name %d is %q", i, s), m)
		}
		for _, s := range bad {
			m := smallMachine()
			*partsOf(&m).names[i] = s
			notPlain(t, fmt.Sprintf("name %d is %.40q", i, s), m)
		}
	}
	for i := range len(partsOf(&m).fixes) {
		for _, s := range append(good, "") {
			m := smallMachine()
			*partsOf(&m).fixes[i] = s
			plain(t, fmt.Sprintf("fix %d is %q", i, s), m)
		}
		for _, s := range bad[1:] {
			m := smallMachine()
			*partsOf(&m).fixes[i] = s
			notPlain(t, fmt.Sprintf("fix %d is %.40q", i, s), m)
		}
	}
}

func TestP301EveryByteOfAName(t *testing.T) {
	for c := range 256 {
		for _, s := range []string{string([]byte{byte(c)}), string([]byte{'a', byte(c)}), string([]byte{byte(c), 'a'})} {
			if m := (api.Machine{Name: s}); desc.Plain(m) != nameForm.MatchString(s) && s != "at" {
				t.Errorf("name %q: plain %v", s, desc.Plain(m))
			}
		}
	}
}

func TestP301Numbers(t *testing.T) {
	m := smallMachine()
	n := len(partsOf(&m).numbers)
	if n != 12 {
		t.Fatalf("%d numbers", n)
	}
	for i := range n {
		for _, v := range []int{0, 1, 7, 10, 99999, 100000, 999998, 999999} {
			m := smallMachine()
			*partsOf(&m).numbers[i] = v
			plain(t, fmt.Sprintf("number %d is %d", i, v), m)
		}
		for _, v := range []int{-1, -2, -999999, 1000000, 1000001, math.MinInt, math.MaxInt, 1 << 32, 1<<32 + 1, -1 << 32} {
			m := smallMachine()
			*partsOf(&m).numbers[i] = v
			notPlain(t, fmt.Sprintf("number %d is %d", i, v), m)
		}
	}
}

func TestP301OuterAt(t *testing.T) {
	for i := range 3 {
		for _, v := range []int{1, -1, 8, 999999, 1000000, math.MinInt, math.MaxInt} {
			m := smallMachine()
			*partsOf(&m).ats[i] = v
			notPlain(t, fmt.Sprintf("the outer register %d at %d", i, v), m)
		}
	}
}

func TestP301Tie(t *testing.T) {
	for i := range 3 {
		for _, v := range []int{-1, 0, 1} { // 1 of an operation of one operand, too
			m := smallMachine()
			m.Ops[i].Tie = v
			plain(t, fmt.Sprintf("operation %d has the tie %d", i, v), m)
		}
		for _, v := range []int{-2, 2, 3, 999999, math.MinInt, math.MaxInt} {
			m := smallMachine()
			m.Ops[i].Tie = v
			notPlain(t, fmt.Sprintf("operation %d has the tie %d", i, v), m)
		}
	}
}

func TestP301Lists(t *testing.T) {
	class, op := smallMachine().Classes[0], smallMachine().Ops[0]
	for _, x := range []struct {
		what  string
		least int
		set   func(m *api.Machine, n int)
	}{
		{"registers", 0, func(m *api.Machine, n int) { m.Regs = many(n, api.Reg{Name: "r"}) }},
		{"registers within one", 0, func(m *api.Machine, n int) { m.Regs[1].Subs = many(n, api.Reg{Name: "r"}) }},
		{"registers within one within one", 0, func(m *api.Machine, n int) { m.Regs[0].Subs[1].Subs = many(n, api.Reg{Name: "r"}) }},
		{"registers of the last depth", 0, func(m *api.Machine, n int) {
			m.Regs[2] = deepReg(5)
			m.Regs[2].Subs[0].Subs[0].Subs[0].Subs[0].Subs = many(n, api.Reg{Name: "r"})
		}},
		{"classes", 0, func(m *api.Machine, n int) { m.Classes = many(n, class) }},
		{"registers of a class", 1, func(m *api.Machine, n int) { m.Classes[1].Regs = many(n, "a") }},
		{"operations", 0, func(m *api.Machine, n int) { m.Ops = many(n, op) }},
		{"destroyed registers", 0, func(m *api.Machine, n int) { m.Ops[2].Clob = many(n, "a") }},
		{"arguments", 0, func(m *api.Machine, n int) { m.Args = many(n, "a") }},
		{"saved registers", 0, func(m *api.Machine, n int) { m.Saved = many(n, "a") }},
	} {
		for _, n := range []int{0, 1, 2, 199, 200, 201, 202, 1000} {
			m := smallMachine()
			x.set(&m, n)
			if what := fmt.Sprintf("%d %s", n, x.what); x.least <= n && n <= 200 {
				plain(t, what, m)
			} else {
				notPlain(t, what, m)
			}
		}
	}
	// Each list by itself is that long: all together may be more.
	m := smallMachine()
	for i := range m.Regs {
		m.Regs[i].Subs = many(200, api.Reg{Name: "r", Subs: many(3, api.Reg{Name: "q"})})
	}
	plain(t, "600 registers", m)
}

func TestP301Uses(t *testing.T) {
	for i := range 3 {
		for n := range 5 {
			m := smallMachine()
			m.Ops[i].Uses = many(n, api.Oper{Class: "g", Fix: "b"})
			if what := fmt.Sprintf("operation %d has %d operands", i, n); n == 1 || n == 2 {
				plain(t, what, m)
			} else {
				notPlain(t, what, m)
			}
		}
	}
}

func TestP301EachElementIsAsked(t *testing.T) {
	for _, i := range []int{0, 1, 99, 198, 199} {
		m := smallMachine()
		m.Args = many(200, "a")
		m.Args[i] = "args"
		notPlain(t, fmt.Sprintf("argument %d", i), m)
		m = smallMachine()
		m.Classes[0].Regs = many(200, "a")
		m.Classes[0].Regs[i] = ""
		notPlain(t, fmt.Sprintf("register %d of a class", i), m)
		m = smallMachine()
		m.Regs[2].Subs = many(200, api.Reg{Name: "r"})
		m.Regs[2].Subs[i].At = 1000000
		notPlain(t, fmt.Sprintf("register %d within another", i), m)
	}
}

func TestP301HowDeep(t *testing.T) {
	for deep := 1; deep <= 12; deep++ {
		for at := range 3 {
			m := smallMachine()
			m.Regs[at] = deepReg(deep)
			if what := fmt.Sprintf("register %d is %d deep", at, deep); deep <= 6 {
				plain(t, what, m)
			} else {
				notPlain(t, what, m)
			}
		}
	}
	// Beside one that is deep stands one that is not.
	m := smallMachine()
	m.Regs[0] = api.Reg{Name: "o", Subs: []api.Reg{deepReg(5), {Name: "p"}, deepReg(2), deepReg(5)}}
	plain(t, "6 deep", m)
	m.Regs[0].Subs[3] = deepReg(6)
	notPlain(t, "7 deep", m)
}

func TestP301Depth(t *testing.T) {
	depth := func(want int, l ...api.Reg) {
		t.Helper()
		if got := desc.Depth(l); got != want {
			t.Errorf("%d deep, want %d", got, want)
		}
	}
	depth(0)
	if desc.Depth(nil) != 0 || desc.Depth([]api.Reg{}) != 0 {
		t.Error("no registers are deep")
	}
	depth(1, api.Reg{})
	depth(1, many(300, api.Reg{})...)
	depth(1, api.Reg{Subs: []api.Reg{}})
	depth(4, smallMachine().Regs[1], deepReg(4), api.Reg{})
	depth(3, smallMachine().Regs...)
	for deep := 1; deep <= 30; deep++ {
		want := min(deep, 7)
		depth(want, deepReg(deep))
		depth(want, api.Reg{}, deepReg(deep), api.Reg{})
		depth(min(deep+1, 7), api.Reg{Subs: []api.Reg{{}, deepReg(deep), {}}})
		depth(7, deepReg(deep), deepReg(40))
	}
	// Nothing but how deep they are is looked at.
	depth(2, api.Reg{Name: "?", Width: -1, At: -1, Subs: []api.Reg{{Name: "reg", Width: math.MaxInt}}})
}

func TestP301RegistersThatHoldThemselves(t *testing.T) {
	for _, n := range []int{1, 2, 200} {
		l := many(n, api.Reg{Name: "r"})
		for i := range l {
			l[i].Subs = l
		}
		if got := desc.Depth(l); got != 7 {
			t.Errorf("%d deep", got)
		}
		notPlain(t, "registers that hold themselves", api.Machine{Name: "m", Regs: l})
	}
	l := many(200, api.Reg{Name: "r"})
	l[199].Subs = l
	if got := desc.Depth(l); got != 7 {
		t.Errorf("%d deep", got)
	}
	notPlain(t, "registers whose last holds them", api.Machine{Name: "m", Regs: l})
}

func TestP302Texts(t *testing.T) {
	prints(t, "the chapter's", api.Machine{Name: "m", Regs: []api.Reg{{Name: "a", Width: 8}}, Slots: 3}, "machine m {\n  reg a 8\n  slots 3\n}\n")
	prints(t, "least", api.Machine{Name: "m"}, "machine m {\n  slots 0\n}\n")
	prints(t, "empty lists", api.Machine{Name: "m", Regs: []api.Reg{{Name: "a", Subs: []api.Reg{}}}, Args: []string{}, Saved: []string{}}, "machine m {\n  reg a 0\n  slots 0\n}\n")
	prints(t, "args", api.Machine{Name: "m", Args: []string{"z", "y", "z"}}, "machine m {\n  args z y z\n  slots 0\n}\n")
	prints(t, "result", api.Machine{Name: "m", Result: "z"}, "machine m {\n  result z\n  slots 0\n}\n")
	prints(t, "saved", api.Machine{Name: "m", Saved: []string{"z"}, Slots: 999999}, "machine m {\n  saved z\n  slots 999999\n}\n")
	prints(t, "all three", api.Machine{Name: "m", Saved: []string{"z"}, Result: "y", Args: []string{"x"}}, "machine m {\n  args x\n  result y\n  saved z\n  slots 0\n}\n")
	prints(t, "class", api.Machine{Name: "m", Classes: []api.Class{{Name: "b", Regs: []string{"q"}}, {Name: "a", Regs: []string{"r", "q"}}}}, "machine m {\n  class b = q\n  class a = r q\n  slots 0\n}\n")
}

func TestP302Registers(t *testing.T) {
	m := api.Machine{Name: "m", Regs: []api.Reg{deepReg(6)}}
	prints(t, "6 deep", m, `machine m {
  reg r 1 {
    reg r 1 at 0 {
      reg r 1 at 0 {
        reg r 1 at 0 {
          reg r 1 at 0 {
            reg r 1 at 0
          }
        }
      }
    }
  }
  slots 0
}
`)
	m.Regs = []api.Reg{
		{Name: "a", Width: 1, Subs: []api.Reg{deepReg(2), {Name: "b", Width: 2, At: 3}}},
		{Name: "c", Subs: []api.Reg{{Name: "d", At: 999999}, deepReg(3)}},
		{Name: "e", Subs: []api.Reg{{Name: "f"}}},
	}
	prints(t, "one beside the other", m, `machine m {
  reg a 1 {
    reg r 1 at 0 {
      reg r 1 at 0
    }
    reg b 2 at 3
  }
  reg c 0 {
    reg d 0 at 999999
    reg r 1 at 0 {
      reg r 1 at 0 {
        reg r 1 at 0
      }
    }
  }
  reg e 0 {
    reg f 0 at 0
  }
  slots 0
}
`)
}

func TestP302Operations(t *testing.T) {
	a, b, fixed := api.Oper{Class: "a"}, api.Oper{Class: "b"}, api.Oper{Class: "c", Fix: "r"}
	for _, x := range []struct {
		op   api.Op
		want string
	}{
		{api.Op{Name: "o", Def: a, Uses: []api.Oper{b}, Tie: -1}, "op o a = b"},
		{api.Op{Name: "o", Def: a, Uses: []api.Oper{b}}, "op o a = b tie 0"},
		{api.Op{Name: "o", Def: a, Uses: []api.Oper{b}, Tie: 1}, "op o a = b tie 1"},
		{api.Op{Name: "o", Def: a, Uses: []api.Oper{b, a}, Tie: -1}, "op o a = b a"},
		{api.Op{Name: "o", Def: fixed, Uses: []api.Oper{a, b}, Tie: -1}, "op o c:r = a b"},
		{api.Op{Name: "o", Def: a, Uses: []api.Oper{fixed, b}, Tie: -1}, "op o a = c:r b"},
		{api.Op{Name: "o", Def: a, Uses: []api.Oper{b, fixed}, Tie: -1}, "op o a = b c:r"},
		{api.Op{Name: "o", Def: fixed, Uses: []api.Oper{fixed, fixed}, Tie: 1, Clob: []string{"x"}}, "op o c:r = c:r c:r tie 1 clob x"},
		{api.Op{Name: "o", Def: a, Uses: []api.Oper{b}, Tie: -1, Clob: []string{"x", "w", "x"}}, "op o a = b clob x w x"},
		{api.Op{Name: "o", Def: a, Uses: []api.Oper{b}, Tie: -1, Clob: []string{}}, "op o a = b"},
	} {
		prints(t, x.want, api.Machine{Name: "m", Ops: []api.Op{x.op}}, "machine m {\n  "+x.want+"\n  slots 0\n}\n")
	}
}

// steps is a row of numbers that is the same on every run.
type steps uint64

func (s *steps) next(below int) int {
	*s = *s*6364136223846793005 + 1442695040888963407
	return int(uint64(*s)>>33) % below
}

func (s *steps) name() string {
	return string([]byte{"abcXYZ_"[s.next(7)]}) + strings.Repeat("k", s.next(3)) + fmt.Sprint(s.next(12))
}

func (s *steps) list(least int) []string {
	var l []string
	for range least + s.next(4) {
		l = append(l, s.name())
	}
	return l
}

func (s *steps) nameOrNone() string {
	if s.next(2) == 0 {
		return ""
	}
	return s.name()
}

func (s *steps) regs(n, deep int) []api.Reg {
	l := make([]api.Reg, s.next(n))
	for i := range l {
		l[i] = api.Reg{Name: s.name(), Width: s.next(1000)}
		if deep > 1 {
			l[i].At = s.next(64)
		}
		if deep < 6 && s.next(2) == 0 {
			l[i].Subs = s.regs(4, deep+1)
		}
	}
	return l
}

// machine is a plain machine.
func (s *steps) machine() api.Machine {
	m := api.Machine{Name: s.name(), Regs: s.regs(5, 1), Args: s.list(0), Result: s.nameOrNone(), Saved: s.list(0), Slots: s.next(1000000)}
	for range s.next(4) {
		m.Classes = append(m.Classes, api.Class{Name: s.name(), Regs: s.list(1)})
	}
	for range s.next(4) {
		o := api.Op{Name: s.name(), Def: api.Oper{Class: s.name(), Fix: s.nameOrNone()}, Tie: s.next(3) - 1, Clob: s.list(0)}
		for range 1 + s.next(2) {
			o.Uses = append(o.Uses, api.Oper{Class: s.name(), Fix: s.nameOrNone()})
		}
		m.Ops = append(m.Ops, o)
	}
	return m
}

func pick[T any](s *steps, l []*T, x T) {
	if len(l) > 0 {
		*l[s.next(len(l))] = x
	}
}

// turn changes one part of m, so that it is no longer plain for the most part.
func (s *steps) turn(m *api.Machine) {
	p := partsOf(m)
	switch s.next(9) {
	case 0:
		pick(s, p.names, append(words, "", "9", "a b", strings.Repeat("x", 20), strings.Repeat("x", 21))[s.next(16)])
	case 1:
		pick(s, p.fixes, append(words, "", "9", "a:b", strings.Repeat("x", 20), strings.Repeat("x", 21))[s.next(16)])
	case 2:
		pick(s, p.numbers, []int{-1, 0, 999999, 1000000, math.MaxInt}[s.next(5)])
	case 3:
		pick(s, p.ats, s.next(3)-1)
	case 4:
		pick(s, p.ties, s.next(7)-3)
	case 5:
		pick(s, p.uses, many(s.next(4), api.Oper{Class: "g"}))
	case 6:
		pick(s, p.regs, many(199+s.next(3), api.Reg{Name: "w"}))
	case 7:
		pick(s, p.regs, []api.Reg{deepReg(1 + s.next(7))})
	case 8:
		pick(s, append(p.lists, p.classRegs...), [][]string{nil, many(200, "w"), many(201, "w")}[s.next(3)])
	}
}

func TestP302AgainstModel(t *testing.T) {
	s := steps(5)
	good, bad, deep := 0, 0, [8]int{}
	for i := range 20000 {
		m := s.machine()
		if i%2 == 1 {
			s.turn(&m)
		}
		what := fmt.Sprintf("machine %d", i)
		if modelPlain(m) {
			good++
			plain(t, what, m)
		} else {
			bad++
			notPlain(t, what, m)
		}
		d := modelDepth(m.Regs)
		deep[d]++
		if got := desc.Depth(m.Regs); got != d {
			t.Errorf("%s is %d deep, want %d", what, got, d)
		}
		if t.Failed() {
			return
		}
	}
	if good < 10000 || bad < 3000 {
		t.Errorf("%d machines are plain, %d are not: one of them too few", good, bad)
	}
	for d, n := range deep {
		if n < 50 {
			t.Errorf("%d machines are %d deep: too few", n, d)
		}
	}
}

// TestP302TwoMachinesTwoTexts: what is printed tells the machine.
func TestP302TwoMachinesTwoTexts(t *testing.T) {
	s := steps(6)
	seen := map[string]api.Machine{}
	for range 4000 {
		m := s.machine()
		text := desc.Print(m)
		if old, ok := seen[text]; ok && modelPrint(old) != modelPrint(m) {
			t.Fatalf("two machines of one text\n%s", text)
		}
		seen[text] = m
		if strings.Count(text, "{") != strings.Count(text, "}") || strings.Contains(text, " \n") || strings.Contains(text, "\n\n") {
			t.Fatalf("braces, or blanks, too many in\n%s", text)
		}
	}
}

// roomy is m with spare room behind each of its lists, all of it filled.
func roomy(m *api.Machine) (check func() bool) {
	var spares []any
	wide := func(l []string) []string {
		w := append(append(make([]string, 0, len(l)+3), l...), "s1", "s2", "s3")
		spares = append(spares, w)
		return w[:len(l)]
	}
	m.Args, m.Saved = wide(m.Args), wide(m.Saved)
	for i := range m.Classes {
		m.Classes[i].Regs = wide(m.Classes[i].Regs)
	}
	for i := range m.Ops {
		m.Ops[i].Clob = wide(m.Ops[i].Clob)
		uses := append(m.Ops[i].Uses, api.Oper{Class: "s4"}, api.Oper{Fix: "s5"})
		spares = append(spares, uses)
		m.Ops[i].Uses = uses[:len(uses)-2]
	}
	ops := append(m.Ops, api.Op{Name: "s6"})
	classes := append(m.Classes, api.Class{Name: "s7"})
	regs := append(m.Regs, api.Reg{Name: "s8"})
	spares = append(spares, ops, classes, regs)
	m.Ops, m.Classes, m.Regs = ops[:len(ops)-1], classes[:len(classes)-1], regs[:len(regs)-1]
	before := fmt.Sprintf("%#v", spares)
	return func() bool { return fmt.Sprintf("%#v", spares) == before }
}

func TestP303NothingIsChanged(t *testing.T) {
	s := steps(7)
	for i := range 500 {
		m := s.machine()
		same := roomy(&m)
		before := fmt.Sprintf("%#v", m)
		desc.Plain(m)
		desc.Print(m)
		desc.Depth(m.Regs)
		if fmt.Sprintf("%#v", m) != before || !same() {
			t.Fatalf("machine %d is changed", i)
		}
	}
	m := smallMachine()
	desc.Print(m)
	if !reflect.DeepEqual(m, smallMachine()) {
		t.Error("the machine is changed")
	}
}

func TestP303SameAnswers(t *testing.T) {
	s := steps(8)
	var l []api.Machine
	var texts []string
	for range 200 {
		m := s.machine()
		l, texts = append(l, m), append(texts, desc.Print(m))
	}
	for i := range l {
		if at := len(l) - 1 - i; desc.Print(l[at]) != texts[at] || texts[at] == "" {
			t.Errorf("machine %d is printed otherwise", at)
		}
	}
}

func TestP303TextsAreNew(t *testing.T) {
	m := smallMachine()
	a, b := desc.Print(m), desc.Print(m)
	if a != b || unsafe.StringData(a) == unsafe.StringData(b) {
		t.Error("two texts share their bytes")
	}
	m.Classes[0].Regs[0], m.Regs[0].Subs[0].Name = "x", "y"
	if a != small {
		t.Error("a text follows the machine")
	}
	if got := desc.Print(m); got != strings.Replace(strings.Replace(small, "g = a", "g = x", 1), "reg al", "reg y", 1) {
		t.Errorf("what is turned is not printed\n%s", got)
	}
}

func TestP303AtOneTime(t *testing.T) {
	m := smallMachine()
	var wg sync.WaitGroup
	for range 8 {
		wg.Go(func() {
			for range 100 {
				if desc.Print(m) != small || desc.Depth(m.Regs) != 3 || !desc.Plain(m) {
					t.Error("another answer")
					return
				}
			}
		})
	}
	wg.Wait()
}
