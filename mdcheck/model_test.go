package mdcheck_test

import (
	"fmt"
	"math"
	"regexp"
	"slices"
	"strings"
	"testing"

	"pigeonhole/api"
	"pigeonhole/geom"
	"pigeonhole/mdcheck"
)

var nameForm = regexp.MustCompile(`^[a-zA-Z_][a-zA-Z_0-9]{0,19}$`)

var words = strings.Fields("machine reg at class op tie clob args result saved slots")

// arities is how many uses each operation has.
var arities = map[string]int{"add": 2, "sub": 2, "mul": 2, "and": 2, "or": 2, "xor": 2, "shl": 2, "shr": 2, "div": 2, "rem": 2, "lt": 2, "eq": 2, "not": 1}

// bits is the bits of a register: those of one outer one.
type bits struct {
	root  int
	mask  uint64
	width int
}

// model is a description's registers, by their bits, and what the promises say of it, asked without any haste.
type model struct {
	m    api.Machine
	regs map[string]bits
}

func newModel(m api.Machine) model {
	x := model{m: m, regs: map[string]bits{}}
	for i, r := range m.Regs {
		x.add(r, i, 0)
	}
	return x
}

func (x model) add(r api.Reg, root, first int) {
	b := bits{root: root, width: r.Width}
	for i := range min(r.Width, 64) {
		b.mask |= 1 << (first + r.At + i)
	}
	x.regs[r.Name] = b
	for _, s := range r.Subs {
		x.add(s, root, first+r.At)
	}
}

func (x model) lap(a, b string) bool {
	return x.regs[a].root == x.regs[b].root && x.regs[a].mask&x.regs[b].mask != 0
}

func (x model) lapsAny(a string, l []string) bool {
	for _, b := range l {
		if x.lap(a, b) {
			return true
		}
	}
	return false
}

func (x model) isReg(s string) bool {
	_, ok := x.regs[s]
	return ok
}

// class is the registers of the class of that name, nil if there is none.
func (x model) class(name string) []string {
	for _, c := range x.m.Classes {
		if c.Name == name {
			return c.Regs
		}
	}
	return nil
}

// oneOf is the registers that an operand may be.
func (x model) oneOf(o api.Oper) []string {
	var l []string
	for _, r := range x.class(o.Class) {
		if o.Fix == "" || o.Fix == r {
			l = append(l, r)
		}
	}
	return l
}

func isName(s string) bool { return nameForm.MatchString(s) && !slices.Contains(words, s) }

// point is what each of the chapter's points says.
func (x model) point(n int) api.Errno {
	m := x.m
	switch n {
	case 1:
		if !isName(m.Name) {
			return api.ErrName
		}
	case 2:
		if _, _, err := geom.Places(m.Regs); err != api.OK {
			return err
		}
		if len(m.Regs) == 0 {
			return api.ErrArg
		}
	case 3:
		return x.classes()
	case 4:
		return x.ops()
	case 5:
		return x.convention()
	case 6:
		for _, r := range append([]string{m.Result}, m.Args...) {
			found := false
			for _, c := range m.Classes {
				found = found || slices.Contains(c.Regs, r)
			}
			if !found {
				return api.ErrConv
			}
		}
	case 7:
		for _, o := range m.Ops {
			if !x.opFits(o) {
				return api.ErrSpill
			}
		}
		for _, a := range m.Classes {
			for _, b := range m.Classes {
				if !x.pair(a, b) {
					return api.ErrSpill
				}
			}
		}
	}
	return api.OK
}

// upTo is the first error of the points up to that one.
func upTo(m api.Machine, last int) api.Errno {
	var x model
	for n := 1; n <= last; n++ {
		if n == 3 { // the registers can be as they are told
			x = newModel(m)
		}
		x.m = m
		if err := x.point(n); err != api.OK {
			return err
		}
	}
	return api.OK
}

func (x model) classes() api.Errno {
	if len(x.m.Classes) > 64 {
		return api.ErrLong
	}
	seen := map[string]bool{}
	for _, c := range x.m.Classes {
		if !isName(c.Name) || seen[c.Name] || x.isReg(c.Name) {
			return api.ErrName
		}
		seen[c.Name] = true
		if len(c.Regs) < 1 || len(c.Regs) > 64 {
			return api.ErrClass
		}
		in := map[string]bool{}
		for _, r := range c.Regs {
			if !x.isReg(r) || in[r] || x.regs[r].width != x.regs[c.Regs[0]].width {
				return api.ErrClass
			}
			in[r] = true
		}
	}
	return api.OK
}

func (x model) ops() api.Errno {
	if len(x.m.Ops) > 64 {
		return api.ErrLong
	}
	seen := map[string]bool{}
	for _, o := range x.m.Ops {
		if arities[o.Name] == 0 || seen[o.Name] {
			return api.ErrName
		}
		seen[o.Name] = true
		if !x.opCanBe(o) {
			return api.ErrOper
		}
	}
	return api.OK
}

func (x model) opCanBe(o api.Op) bool {
	if len(o.Uses) != arities[o.Name] || o.Tie < -1 || o.Tie > len(o.Uses)-1 || len(o.Clob) > 64 {
		return false
	}
	widths := map[int]bool{}
	for _, u := range append([]api.Oper{o.Def}, o.Uses...) {
		l := x.oneOf(u)
		if len(l) == 0 {
			return false
		}
		widths[x.regs[l[0]].width] = true
	}
	if len(widths) > 1 {
		return false
	}
	if o.Tie >= 0 && (o.Def.Class != o.Uses[o.Tie].Class || o.Def.Fix != o.Uses[o.Tie].Fix) {
		return false
	}
	in := map[string]bool{}
	for _, r := range o.Clob {
		if !x.isReg(r) || in[r] {
			return false
		}
		in[r] = true
	}
	return true
}

func (x model) convention() api.Errno {
	m := x.m
	ok := len(m.Args) <= 16 && len(m.Saved) <= 64 && x.isReg(m.Result) && m.Slots >= 0 && m.Slots <= 1000
	for i, r := range m.Args {
		ok = ok && x.isReg(r) && !x.lapsAny(r, m.Args[:i])
	}
	for i, r := range m.Saved {
		ok = ok && x.isReg(r) && !x.lapsAny(r, m.Saved[:i]) && !x.lap(r, m.Result)
	}
	if !ok {
		return api.ErrConv
	}
	return api.OK
}

// opFits tries all registers for all operands, the Def too.
func (x model) opFits(o api.Op) bool {
	firsts, seconds := x.oneOf(o.Uses[0]), []string{""}
	if len(o.Uses) == 2 {
		seconds = x.oneOf(o.Uses[1])
	}
	for _, a := range firsts {
		for _, b := range seconds {
			if b != "" && x.lap(a, b) {
				continue
			}
			for _, d := range x.oneOf(o.Def) {
				if o.Tie == 0 && d != a || o.Tie == 1 && d != b {
					continue
				}
				if !x.lapsAny(d, o.Clob) {
					return true
				}
			}
		}
	}
	return false
}

func (x model) pair(a, b api.Class) bool {
	for _, r := range a.Regs {
		for _, s := range b.Regs {
			if !x.lap(r, s) {
				return true
			}
		}
	}
	return false
}

// steps is a row of numbers that is the same on every run.
type steps uint64

func (s *steps) next(below int) int {
	*s = *s*6364136223846793005 + 1442695040888963407
	return int(uint64(*s)>>33) % below
}

func pick[T any](s *steps, l ...T) T { return l[s.next(len(l))] }

// some is some of l, in some order.
func some[T any](s *steps, l []T, most int) []T {
	l = slices.Clone(l)
	for i := range l {
		k := s.next(i + 1)
		l[i], l[k] = l[k], l[i]
	}
	return l[:min(len(l), s.next(most+1))]
}

// row is registers of 16 bits, some with two halves, some with all of it again.
func (s *steps) row() []api.Reg {
	l := make([]api.Reg, 1+s.next(5))
	for i := range l {
		n := fmt.Sprint("r", i)
		l[i] = api.Reg{Name: n, Width: 16}
		switch s.next(3) {
		case 0:
			l[i].Subs = []api.Reg{{Name: n + "h", Width: 8, At: 8}, {Name: n + "l", Width: 8}}
		case 1:
			l[i].Subs = []api.Reg{{Name: n + "x", Width: 16, Subs: []api.Reg{{Name: n + "y", Width: 8, At: 4}}}}
		}
	}
	return l
}

// byWidth is the names of the registers of l and of those within them.
func byWidth(l []api.Reg, got map[int][]string) map[int][]string {
	for _, r := range l {
		got[r.Width] = append(got[r.Width], r.Name)
		byWidth(r.Subs, got)
	}
	return got
}

// machine is a machine of few registers: mostly one that is taken but for what can't be in registers at once.
func (s *steps) machine() api.Machine {
	m := api.Machine{Name: "m", Regs: s.row(), Slots: s.next(1001)}
	regs := byWidth(m.Regs, map[int][]string{})
	var all []string
	for _, w := range []int{8, 16} {
		all = append(all, regs[w]...)
		for i := range s.next(3) {
			if l := some(s, regs[w], 4); len(l) > 0 {
				m.Classes = append(m.Classes, api.Class{Name: fmt.Sprint("c", w, "_", i), Regs: l})
			}
		}
	}
	if s.next(2) == 0 || len(m.Classes) == 0 {
		m.Classes = append(m.Classes, api.Class{Name: "all", Regs: regs[16]})
	}
	for name := range 4 {
		m.Ops = append(m.Ops, s.op([]string{"add", "div", "not", "lt"}[name], m.Classes, all))
	}
	m.Ops = some(s, m.Ops, 4)
	m.Result = pick(s, pick(s, m.Classes...).Regs...)
	x := newModel(m)
	for _, r := range some(s, all, 3) {
		if !x.lapsAny(r, m.Args) {
			m.Args = append(m.Args, r)
		}
	}
	for _, r := range some(s, all, 4) {
		if !x.lapsAny(r, m.Saved) && !x.lap(r, m.Result) {
			m.Saved = append(m.Saved, r)
		}
	}
	return m
}

// op is an operation over some of the classes, mostly over one.
func (s *steps) op(name string, classes []api.Class, all []string) api.Op {
	c := pick(s, classes...)
	oper := func() api.Oper {
		k := c
		if s.next(12) == 0 {
			k = pick(s, classes...)
		}
		o := api.Oper{Class: k.Name}
		if s.next(3) == 0 {
			o.Fix = pick(s, k.Regs...)
		}
		return o
	}
	o := api.Op{Name: name, Def: oper(), Tie: -1, Clob: some(s, all, 3)}
	for range arities[name] {
		o.Uses = append(o.Uses, oper())
	}
	if s.next(2) == 0 {
		o.Tie = s.next(len(o.Uses))
		o.Def = o.Uses[o.Tie]
	}
	return o
}

// turn changes one thing of m.
func (s *steps) turn(m *api.Machine) {
	odd := pick(s, "", "op", "r0", "zz", "r1h", "c16_0", "all", "add", "not", "adc", "9")
	number := pick(s, -2, -1, 0, 1, 2, 3, 8, 16, 1000, 1001, math.MaxInt, math.MinInt)
	c, o := pick(s, m.Classes...), api.Op{}
	class, op := slices.IndexFunc(m.Classes, func(k api.Class) bool { return k.Name == c.Name }), -1
	if len(m.Ops) > 0 {
		op = s.next(len(m.Ops))
		o = m.Ops[op]
	}
	switch s.next(11) {
	case 0:
		m.Name = odd
	case 1:
		c.Name = odd
	case 2:
		c.Regs = append(slices.Clone(c.Regs), odd)
	case 3:
		o.Name = odd
	case 4:
		o.Tie = number
	case 5:
		o.Def = api.Oper{Class: pick(s, o.Def.Class, odd), Fix: odd}
	case 6:
		o.Uses = some(s, append(o.Uses, o.Def), 3)
	case 7:
		o.Clob = append(slices.Clone(o.Clob), odd)
	case 8:
		m.Args = append(m.Args, odd)
	case 9:
		m.Saved, m.Result = append(m.Saved, odd), pick(s, m.Result, odd)
	case 10:
		m.Slots = number
	}
	m.Classes[class] = c
	if op >= 0 {
		m.Ops[op] = o
	}
	if s.next(20) == 0 {
		r := &m.Regs[s.next(len(m.Regs))]
		r.Width, r.Name = pick(s, r.Width, 15, 64, number), pick(s, r.Name, r.Name, odd)
	}
}

func TestP601AgainstModel(t *testing.T) {
	s := steps(6)
	seen := map[api.Errno]int{}
	fits, pairs := map[bool]int{}, map[bool]int{}
	for i := range 12000 {
		m := s.machine()
		for range s.next(3) {
			s.turn(&m)
		}
		want := upTo(m, 7)
		seen[want]++
		if got := mdcheck.Check(m); got != want {
			t.Fatalf("machine %d, %+v: error %d, want %d", i, m, got, want)
		}
		x := newModel(m)
		for op := -1; op <= len(m.Ops); op++ {
			want := 0 <= op && op < len(m.Ops) && upTo(m, 4) == api.OK && x.opFits(m.Ops[op])
			fits[want]++
			if mdcheck.Fits(m, op) != want {
				t.Fatalf("machine %d, %+v: Fits of %d, want %v", i, m, op, want)
			}
		}
		for a := -1; a <= len(m.Classes); a++ {
			for b := -1; b <= len(m.Classes); b++ {
				in := 0 <= a && a < len(m.Classes) && 0 <= b && b < len(m.Classes)
				want := in && upTo(m, 3) == api.OK && x.pair(m.Classes[a], m.Classes[b])
				pairs[want]++
				if mdcheck.Pair(m, a, b) != want {
					t.Fatalf("machine %d, %+v: Pair of %d and %d, want %v", i, m, a, b, want)
				}
			}
		}
	}
	for _, e := range []api.Errno{api.OK, api.ErrName, api.ErrWidth, api.ErrClass, api.ErrOper, api.ErrConv, api.ErrSpill} {
		if seen[e] < 100 {
			t.Errorf("error %d: %d times, too few", e, seen[e])
		}
	}
	if fits[true] < 1000 || pairs[true] < 1000 {
		t.Error("too few that fit:", fits, pairs)
	}
}
