package shipped_test

import (
	"strconv"
	"strings"
	"testing"

	"pigeonhole/api"
	"pigeonhole/desc"
	"pigeonhole/shipped"
)

// The three machines once more, made by short rules, so that no register is forgotten, misspelt or in a wrong place.

// nested is the registers of these names, each within the one ahead of it, at bit 0 and of half its width.
func nested(width int, names ...string) []api.Reg {
	if len(names) == 0 {
		return nil
	}
	return []api.Reg{{Name: names[0], Width: width, Subs: nested(width/2, names[1:]...)}}
}

// row is the registers p with the numbers from first to last behind it.
func row(p string, first, last int) []string {
	var l []string
	for i := first; i <= last; i++ {
		l = append(l, p+strconv.Itoa(i))
	}
	return l
}

// modelOps is the thirteen operations on the class g, with such a tie where they have two uses or one, but lt and eq.
func modelOps(tie int) []api.Op {
	var l []api.Op
	for _, name := range strings.Fields("add sub mul and or xor shl shr div rem lt eq not") {
		o := api.Op{Name: name, Def: api.Oper{Class: "g"}, Uses: []api.Oper{{Class: "g"}, {Class: "g"}}, Tie: tie}
		switch name {
		case "lt", "eq":
			o.Tie = -1
		case "not":
			o.Uses = o.Uses[:1]
		}
		l = append(l, o)
	}
	return l
}

func modelX86() api.Machine {
	m := api.Machine{Name: "x86", Ops: modelOps(0), Args: strings.Fields("rdi rsi rdx rcx r8 r9"), Result: "rax", Saved: strings.Fields("rbx rbp r12 r13 r14 r15"), Slots: 1000}
	classes := map[string][]string{"h": {"ah", "ch", "dh", "bh"}}
	outer := func(names ...string) {
		for i, class := range []string{"g", "d", "w", "b"} {
			classes[class] = append(classes[class], names[i])
		}
		m.Regs = append(m.Regs, nested(64, names...)...)
	}
	letter := func(c string) {
		outer("r"+c+"x", "e"+c+"x", c+"x", c+"l")
		x := &m.Regs[len(m.Regs)-1].Subs[0].Subs[0]
		x.Subs = append(x.Subs, api.Reg{Name: c + "h", Width: 8, At: 8})
	}
	word := func(c string) { outer("r"+c, "e"+c, c, c+"l") }
	letter("a")
	letter("c")
	letter("d")
	letter("b")
	word("si")
	word("di")
	word("bp")
	for _, r := range row("r", 8, 15) {
		outer(r, r+"d", r+"w", r+"b")
	}
	for _, class := range []string{"g", "d", "w", "b", "h"} {
		m.Classes = append(m.Classes, api.Class{Name: class, Regs: savedLast(classes[class])})
	}
	for i := range m.Ops {
		if o := &m.Ops[i]; o.Name == "div" || o.Name == "rem" {
			o.Def.Fix, o.Uses[0].Fix, o.Clob = "rax", "rax", []string{"rdx"}
		}
	}
	return m
}

// savedLast is the registers of a class of x86, first those that a call destroys.
func savedLast(l []string) []string {
	if len(l) < 15 {
		return l
	}
	var first, last []string
	for i, r := range l {
		if i == 3 || i == 6 || i >= 11 { // rbx, rbp, r12 to r15, and what lies within
			last = append(last, r)
		} else {
			first = append(first, r)
		}
	}
	return append(first, last...)
}

func modelArm() api.Machine {
	m := api.Machine{Name: "arm", Ops: modelOps(-1), Args: row("x", 0, 7), Result: "x0", Saved: row("x", 19, 28), Slots: 1000}
	x, w := append(row("x", 0, 15), row("x", 19, 28)...), append(row("w", 0, 15), row("w", 19, 28)...)
	for i := range x {
		m.Regs = append(m.Regs, nested(64, x[i], w[i])...)
	}
	m.Classes = []api.Class{{Name: "g", Regs: x}, {Name: "w", Regs: w}}
	return m
}

func modelRiscv() api.Machine {
	m := api.Machine{Name: "riscv", Ops: modelOps(-1), Args: row("a", 0, 7), Result: "a0", Saved: row("s", 0, 11), Slots: 1000}
	l := append(append(row("a", 0, 7), row("t", 0, 6)...), row("s", 0, 11)...)
	for _, r := range l {
		m.Regs = append(m.Regs, nested(64, r)...)
	}
	m.Classes = []api.Class{{Name: "g", Regs: l}}
	return m
}

func TestP801Model(t *testing.T) {
	for _, m := range []api.Machine{modelX86(), modelArm(), modelRiscv()} {
		want := desc.Print(m)
		s, _ := shipped.Text(m.Name)
		if want == "" || s != want {
			t.Errorf("%s: the text is\n%s, want\n%s", m.Name, s, want)
		}
	}
}
