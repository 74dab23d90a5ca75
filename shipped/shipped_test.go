package shipped_test

import (
	"slices"
	"strings"
	"sync"
	"testing"

	"pigeonhole/api"
	"pigeonhole/desc"
	"pigeonhole/geom"
	"pigeonhole/mdcheck"
	"pigeonhole/parser"
	"pigeonhole/shipped"
	"pigeonhole/table"
)

// names are the chapter's own, so that what is tested does not hang on what is told.
var names = []string{"x86", "arm", "riscv"}

// machine is the machine of the text of that name.
func machine(t *testing.T, name string) api.Machine {
	t.Helper()
	s, e := shipped.Text(name)
	if e != api.OK {
		t.Fatalf("%s: error %d", name, e)
	}
	m, line, col, e := parser.Parse(s)
	if e != api.OK || line != 0 || col != 0 {
		t.Fatalf("%s: error %d at %d:%d", name, e, line, col)
	}
	return m
}

// made is the table of that machine.
func made(t *testing.T, name string) *table.Table {
	t.Helper()
	x, e := table.Make(machine(t, name))
	if e != api.OK {
		t.Fatalf("%s: error %d", name, e)
	}
	return x
}

func TestP801Names(t *testing.T) {
	if l := shipped.Names(); !slices.Equal(l, names) {
		t.Errorf("names %q, want %q", l, names)
	}
}

func TestP801Text(t *testing.T) {
	for _, name := range names {
		s, e := shipped.Text(name)
		if e != api.OK {
			t.Errorf("%s: error %d", name, e)
		}
		m := machine(t, name)
		if m.Name != name {
			t.Errorf("%s: the machine's name is %q", name, m.Name)
		}
		if !desc.Plain(m) || desc.Print(m) != s {
			t.Errorf("%s: the text is not as it is printed", name)
		}
		if len(s) > api.MaxText || strings.Count(s, "\n") < 20 || !strings.HasPrefix(s, "machine "+name+" {\n") || !strings.HasSuffix(s, "\n}\n") {
			t.Errorf("%s: %q..", name, s[:min(len(s), 40)])
		}
		if e := mdcheck.Check(m); e != api.OK {
			t.Errorf("%s: error %d", name, e)
		}
	}
}

func TestP801NoText(t *testing.T) {
	wrong := []string{"", "vax", "X86", "x8", "x866", "86", "x86 ", " x86", "x86\n", "x86\x00", "\x00", "Arm", "ARM", "ar", "rm", "arm64", "aarch64", "risc", "riscv64", "RISCV", "x86arm", "x86 arm riscv", "machine", "g", "rax", "\xff\xfe", "é", strings.Repeat("x86", 1<<20), strings.Repeat("a", 1<<22)}
	for _, name := range wrong {
		if s, e := shipped.Text(name); s != "" || e != api.ErrName {
			t.Errorf("%q: %d bytes, error %d", name[:min(len(name), 20)], len(s), e)
		}
	}
}

// arities is how many values each operation of chapter 11 has.
func arities() map[string]int {
	l := map[string]int{"not": 1}
	for _, name := range strings.Fields("add sub mul and or xor shl shr div rem lt eq") {
		l[name] = 2
	}
	return l
}

func TestP802ClassG(t *testing.T) {
	for _, name := range names {
		x := made(t, name)
		g, ok := x.Class("g")
		if !ok || x.Width(g) != 64 || len(x.Of(g)) < 8 {
			t.Fatalf("%s: class g: %v, of width %d, of %d registers", name, ok, x.Width(g), len(x.Of(g)))
		}
		for i, a := range x.Of(g) {
			for _, b := range x.Of(g)[:i] {
				if x.Lap(a, b) || geom.Lap(x.Place(a), x.Place(b)) {
					t.Errorf("%s: %s laps with %s", name, x.Name(a), x.Name(b))
				}
			}
		}
	}
}

func TestP802Operations(t *testing.T) {
	for _, name := range names {
		ops := machine(t, name).Ops
		if len(ops) != len(arities()) {
			t.Errorf("%s: %d operations", name, len(ops))
		}
		for _, o := range ops {
			if arities()[o.Name] != len(o.Uses) {
				t.Errorf("%s: %s of %d uses", name, o.Name, len(o.Uses))
			}
			for _, x := range append(o.Uses, o.Def) {
				if x.Class != "g" {
					t.Errorf("%s: %s is on the class %s", name, o.Name, x.Class)
				}
			}
		}
	}
}

// Each operation must fit wherever it stands: its operands without a Fix in any of the class.
func TestP802OperandsWithoutFix(t *testing.T) {
	for _, name := range names {
		x, m := made(t, name), machine(t, name)
		g, _ := x.Class("g")
		for k, o := range m.Ops {
			for i, u := range append([]api.Oper{o.Def}, o.Uses...) {
				for _, r := range x.Of(g) {
					lapped := slices.ContainsFunc(x.Clob(k), func(c int) bool { return i == 0 && x.Lap(c, r) })
					want := (u.Fix == "" || u.Fix == x.Name(r)) && !lapped
					if x.May(k, i, r) != want {
						t.Errorf("%s: may operand %d of %s be %s: %v", name, i, o.Name, x.Name(r), !want)
					}
				}
			}
		}
	}
}

func TestP802Convention(t *testing.T) {
	for _, name := range names {
		x := made(t, name)
		g, _ := x.Class("g")
		if len(x.Args()) < 4 || len(x.Saved()) < 4 || x.Slots() != 1000 {
			t.Errorf("%s: %d args, %d saved, %d slots", name, len(x.Args()), len(x.Saved()), x.Slots())
		}
		for _, r := range append(x.Args(), x.Result()) {
			if !x.In(g, r) {
				t.Errorf("%s: %s is not of the class g", name, x.Name(r))
			}
		}
		// A value that is wanted behind a call, and one that isn't, both have registers.
		survive := 0
		for _, r := range x.Of(g) {
			if x.Survives(r) {
				survive++
			}
		}
		if survive < 4 || survive == len(x.Of(g)) {
			t.Errorf("%s: %d of %d registers survive", name, survive, len(x.Of(g)))
		}
	}
}

// widthsDown is the widths of r and of the first registers within, and whether all of these begin at bit 0.
func widthsDown(r api.Reg) ([]int, bool) {
	l, low := []int{r.Width}, true
	for len(r.Subs) > 0 {
		r = r.Subs[0]
		l, low = append(l, r.Width), low && r.At == 0
	}
	return l, low
}

func TestP802X86Registers(t *testing.T) {
	m, high := machine(t, "x86"), 0
	for _, r := range m.Regs {
		if l, low := widthsDown(r); !low || !slices.Equal(l, []int{64, 32, 16, 8}) {
			t.Errorf("%s: %v within each other, at bit 0: %v", r.Name, l, low)
		}
		if len(r.Subs) == 0 || len(r.Subs[0].Subs) == 0 {
			continue
		}
		for _, x := range r.Subs[0].Subs[0].Subs {
			if x.Width == 8 && x.At == 8 {
				high++
			}
		}
	}
	if high == 0 {
		t.Errorf("no register of 8 bits at bit 8")
	}
	if d := desc.Depth(m.Regs); d != 4 {
		t.Errorf("registers %d deep", d)
	}
}

func TestP802X86High(t *testing.T) {
	x := made(t, "x86")
	at := func(name string) int {
		r, ok := x.Reg(name)
		if !ok {
			t.Fatalf("no register %s", name)
		}
		return r
	}
	if p := x.Place(at("ah")); p != (api.Place{Root: x.Place(at("rax")).Root, At: 8, Width: 8}) {
		t.Errorf("ah lies at %v", p)
	}
	if x.Lap(at("ah"), at("al")) || !x.Lap(at("ah"), at("eax")) || x.Lap(at("ah"), at("ch")) {
		t.Errorf("ah laps with al, not with eax, or with ch")
	}
}

func TestP802X86Operations(t *testing.T) {
	x, m := made(t, "x86"), machine(t, "x86")
	for k, o := range m.Ops {
		tied := len(o.Uses) == 2 && o.Name != "lt" && o.Name != "eq"
		if o.Name != "not" && (x.Tie(k) >= 0) != tied {
			t.Errorf("%s has the tie %d", o.Name, x.Tie(k))
		}
		fixed := o.Def.Fix != "" && o.Uses[0].Fix == o.Def.Fix
		if parts := o.Name == "div" || o.Name == "rem"; fixed != parts || (len(o.Clob) > 0) != parts {
			t.Errorf("%s has %v, and destroys %v", o.Name, o.Def, o.Clob)
		}
	}
}

func TestP802NoTies(t *testing.T) {
	for _, name := range []string{"arm", "riscv"} {
		x, m := made(t, name), machine(t, name)
		for k, o := range m.Ops {
			if x.Tie(k) != -1 || len(o.Clob) != 0 || o.Def.Fix != "" {
				t.Errorf("%s: %s has the tie %d, %v, and destroys %v", name, o.Name, x.Tie(k), o.Def, o.Clob)
			}
		}
	}
}

func TestP802ArmRegisters(t *testing.T) {
	for _, r := range machine(t, "arm").Regs {
		if l, low := widthsDown(r); !low || !slices.Equal(l, []int{64, 32}) || len(r.Subs) != 1 {
			t.Errorf("%s: %v within each other, at bit 0: %v", r.Name, l, low)
		}
	}
}

func TestP802RiscvRegisters(t *testing.T) {
	for _, r := range machine(t, "riscv").Regs {
		if r.Width != 64 || len(r.Subs) != 0 {
			t.Errorf("%s has %d bits, %d registers within", r.Name, r.Width, len(r.Subs))
		}
	}
}

func TestP803NewMemory(t *testing.T) {
	l := shipped.Names()
	spare := l[:cap(l)]
	for i := range spare {
		spare[i] = "vax"
	}
	if again := shipped.Names(); !slices.Equal(again, names) {
		t.Errorf("names %q behind a change of what was answered", again)
	}
	if s, e := shipped.Text("vax"); s != "" || e != api.ErrName {
		t.Errorf("vax: %d bytes, error %d behind a change of what was answered", len(s), e)
	}
}

func TestP803ArgumentsAlone(t *testing.T) {
	want := map[string]string{}
	for _, name := range names {
		want[name], _ = shipped.Text(name)
	}
	var g sync.WaitGroup
	for i := range 8 {
		g.Go(func() {
			for j := range 300 {
				name := names[(i+j)%len(names)]
				shipped.Text("vax")
				if s, e := shipped.Text(name); e != api.OK || s != want[name] {
					t.Errorf("%s: another text", name)
				}
				if !slices.Equal(shipped.Names(), names) {
					t.Errorf("other names")
				}
			}
		})
	}
	g.Wait()
}
