package table_test

import (
	"fmt"
	"reflect"
	"slices"
	"strings"
	"testing"

	"pigeonhole/api"
	"pigeonhole/desc"
	"pigeonhole/mdcheck"
	"pigeonhole/table"
)

// teller is what tells of a machine as a table does.
type teller interface {
	Regs() int
	Name(r int) string
	Reg(name string) (int, bool)
	Place(r int) api.Place
	Lap(a, b int) bool
	Laps(r int) []int
	Class(name string) (int, bool)
	In(class, r int) bool
	Of(class int) []int
	Width(class int) int
	Op(name string) (int, bool)
	May(op, operand, r int) bool
	Tie(op int) int
	Clob(op int) []int
	Args() []int
	Result() int
	Saved() []int
	Survives(r int) bool
	Slots() int
	Roots() int
	Machine() api.Machine
}

// told is all that x tells, a line for each thing.
func told(x teller) string {
	var b strings.Builder
	line := func(what string, a ...any) { fmt.Fprintln(&b, append([]any{what}, a...)...) }
	line("all", x.Regs(), x.Roots(), x.Slots(), x.Result(), x.Args(), x.Saved())
	m := x.Machine()
	names := append(flatNames(m.Regs), "", "zz", m.Name)
	for _, k := range m.Classes {
		names = append(names, k.Name)
	}
	for name := range arities {
		names = append(names, name)
	}
	slices.Sort(names)
	for _, s := range names {
		r, isReg := x.Reg(s)
		k, isClass := x.Class(s)
		o, isOp := x.Op(s)
		line("name", s, r, isReg, k, isClass, o, isOp)
	}
	for r := -1; r <= x.Regs(); r++ {
		var laps, in, may strings.Builder
		for n := -1; n <= max(x.Regs(), len(m.Classes)); n++ {
			fmt.Fprint(&laps, x.Lap(r, n), " ")
			fmt.Fprint(&in, x.In(n, r), " ")
		}
		for o := -1; o <= len(m.Ops); o++ {
			fmt.Fprint(&may, x.May(o, -1, r), x.May(o, 0, r), x.May(o, 1, r), x.May(o, 2, r), x.May(o, 3, r), " ")
		}
		line("reg", r, x.Name(r), x.Place(r), x.Laps(r), x.Survives(r), laps.String(), in.String(), may.String())
	}
	for n := -1; n <= max(len(m.Classes), len(m.Ops)); n++ {
		line("of", n, x.Of(n), x.Width(n), x.Tie(n), x.Clob(n))
	}
	line("machine", fmt.Sprintf("%+v", m))
	return b.String()
}

// differ is the first line in which two such texts differ.
func differ(got, want string) string {
	g, w := strings.Split(got, "\n"), strings.Split(want, "\n")
	for i := range g {
		if i >= len(w) || g[i] != w[i] {
			return fmt.Sprintf("\n%s\nwant\n%s", g[i], w[min(i, len(w)-1)])
		}
	}
	return "no line"
}

var arities = map[string]int{"add": 2, "sub": 2, "mul": 2, "and": 2, "or": 2, "xor": 2, "shl": 2, "shr": 2, "div": 2, "rem": 2, "lt": 2, "eq": 2, "not": 1}

// flatNames is the names of the registers of l, each ahead of those within it.
func flatNames(l []api.Reg) []string {
	var names []string
	for _, r := range l {
		names = append(append(names, r.Name), flatNames(r.Subs)...)
	}
	return names
}

// model is what the promises say of a machine, looked up in it each time, registers held against each other bit by bit.
type model struct {
	m     api.Machine
	names []string
	place map[string]api.Place
}

func newModel(m api.Machine) *model {
	x := &model{m: m, names: flatNames(m.Regs), place: map[string]api.Place{}}
	for i, r := range m.Regs {
		x.lay(r, i, 0)
	}
	return x
}

func (x *model) lay(r api.Reg, root, first int) {
	x.place[r.Name] = api.Place{Root: root, At: first + r.At, Width: r.Width}
	for _, s := range r.Subs {
		x.lay(s, root, first+r.At)
	}
}

// bit tells whether the register of that name has that bit of that outer one.
func (x *model) bit(name string, root, bit int) bool {
	p := x.place[name]
	return p.Root == root && p.At <= bit && bit < p.At+p.Width
}

// shared is how many bits both have.
func (x *model) shared(a, b string) int {
	n := 0
	for bit := range 64 {
		if root := x.place[a].Root; x.bit(a, root, bit) && x.bit(b, root, bit) {
			n++
		}
	}
	return n
}

func (x *model) classNamed(name string) []string {
	for _, k := range x.m.Classes {
		if k.Name == name {
			return k.Regs
		}
	}
	return nil
}

// of is the numbers of the registers of those names.
func (x *model) of(names []string) []int {
	l := []int{}
	for _, s := range names {
		l = append(l, slices.Index(x.names, s))
	}
	return l
}

func find[T any](l []T, is func(T) bool) (int, bool) {
	if n := slices.IndexFunc(l, is); n >= 0 {
		return n, true
	}
	return 0, false
}

// get is the one of that number, the zero one if there is none.
func get[T any](l []T, n int) (x T) {
	if 0 <= n && n < len(l) {
		x = l[n]
	}
	return x
}

func (x *model) Regs() int             { return len(x.names) }
func (x *model) Name(r int) string     { return get(x.names, r) }
func (x *model) Place(r int) api.Place { return x.place[get(x.names, r)] }
func (x *model) Args() []int           { return x.of(x.m.Args) }
func (x *model) Result() int           { return slices.Index(x.names, x.m.Result) }
func (x *model) Saved() []int          { return x.of(x.m.Saved) }
func (x *model) Slots() int            { return x.m.Slots }
func (x *model) Roots() int            { return len(x.m.Regs) }
func (x *model) Machine() api.Machine  { return x.m }
func (x *model) Of(class int) []int    { return x.of(get(x.m.Classes, class).Regs) }
func (x *model) Clob(op int) []int     { return x.of(get(x.m.Ops, op).Clob) }
func (x *model) Width(class int) int   { return x.Place(get(append(x.Of(class), -1), 0)).Width }

func (x *model) Reg(name string) (int, bool) {
	return find(x.names, func(s string) bool { return s == name })
}

func (x *model) Class(name string) (int, bool) {
	return find(x.m.Classes, func(k api.Class) bool { return k.Name == name })
}

func (x *model) Op(name string) (int, bool) {
	return find(x.m.Ops, func(o api.Op) bool { return o.Name == name })
}

func (x *model) Lap(a, b int) bool {
	return min(a, b) >= 0 && max(a, b) < len(x.names) && x.shared(x.names[a], x.names[b]) > 0
}

func (x *model) Laps(r int) []int {
	l := []int{}
	for s := range x.names {
		if x.Lap(r, s) {
			l = append(l, s)
		}
	}
	return l
}

func (x *model) In(class, r int) bool {
	return r >= 0 && r < len(x.names) && slices.Contains(get(x.m.Classes, class).Regs, x.names[r])
}

func (x *model) Tie(op int) int {
	if op < 0 || op >= len(x.m.Ops) {
		return -1
	}
	return x.m.Ops[op].Tie
}

func (x *model) May(op, operand, r int) bool {
	o := get(x.m.Ops, op)
	if op < 0 || op >= len(x.m.Ops) || operand < 0 || operand > len(o.Uses) || r < 0 || r >= len(x.names) {
		return false
	}
	asked := append([]api.Oper{o.Def}, o.Uses...)[operand]
	if !slices.Contains(x.classNamed(asked.Class), x.names[r]) || asked.Fix != "" && asked.Fix != x.names[r] {
		return false
	}
	for _, s := range o.Clob {
		if operand == 0 && x.shared(x.names[r], s) > 0 {
			return false
		}
	}
	return true
}

func (x *model) Survives(r int) bool {
	for _, s := range x.m.Saved {
		if r >= 0 && r < len(x.names) && x.shared(x.names[r], s) == x.Place(r).Width {
			return true
		}
	}
	return false
}

// steps is a row of numbers that is the same on every run.
type steps uint64

func (s *steps) next(below int) int {
	*s = *s*6364136223846793005 + 1442695040888963407
	return int(uint64(*s)>>33) % below
}

// some is at most so many of l, in some order.
func some[T any](s *steps, l []T, most int) []T {
	l = slices.Clone(l)
	for i := range l {
		k := s.next(i + 1)
		l[i], l[k] = l[k], l[i]
	}
	return l[:min(len(l), s.next(most+1))]
}

// within is registers within one of that width, to that depth, named by the name of that.
func (s *steps) within(name string, width, deep int) []api.Reg {
	var l []api.Reg
	for at := 0; deep > 0 && at < width && len(l) < 3; {
		w := min([]int{4, 8, 8, 16}[s.next(4)], width-at)
		if s.next(3) > 0 {
			n := fmt.Sprint(name, len(l))
			l = append(l, api.Reg{Name: n, Width: w, At: at, Subs: s.within(n, w, deep-1-s.next(2))})
		}
		at += w
	}
	return some(s, l, 6)
}

// machine is a machine of some registers; for the most part it is taken.
func (s *steps) machine() api.Machine {
	m := api.Machine{Name: "m", Slots: s.next(1001)}
	for i := range 2 + s.next(5) {
		n := string(rune('a' + i))
		m.Regs = append(m.Regs, api.Reg{Name: n, Width: 16, Subs: s.within(n, 16, 4)})
	}
	x := newModel(m)
	for _, width := range []int{16, 16, 8, 4} {
		var l []string
		for _, n := range x.names {
			if x.place[n].Width == width {
				l = append(l, n)
			}
		}
		if l = some(s, l, 9); len(l) > 1 {
			m.Classes = append(m.Classes, api.Class{Name: fmt.Sprint("k", len(m.Classes)), Regs: l})
		}
	}
	if len(m.Classes) == 0 {
		return m
	}
	for _, name := range some(s, []string{"add", "div", "not", "lt", "xor"}, 5) {
		m.Ops = append(m.Ops, s.op(name, m.Classes, x.names))
	}
	home := m.Classes[s.next(len(m.Classes))].Regs
	m.Result = home[s.next(len(home))]
	m.Args = x.apart(some(s, home, 3), "")
	m.Saved = x.apart(some(s, x.names, 6), m.Result)
	return m
}

// apart is those of l that lap neither with one ahead of them nor with that one.
func (x *model) apart(l []string, with string) []string {
	var got []string
	for _, a := range l {
		if !slices.ContainsFunc(append(slices.Clone(got), with), func(b string) bool { return x.shared(a, b) > 0 }) {
			got = append(got, a)
		}
	}
	return got
}

// op is an operation over one of the classes.
func (s *steps) op(name string, classes []api.Class, names []string) api.Op {
	k := classes[s.next(len(classes))]
	oper := func() api.Oper {
		o := api.Oper{Class: k.Name}
		if s.next(4) == 0 {
			o.Fix = k.Regs[s.next(len(k.Regs))]
		}
		return o
	}
	o := api.Op{Name: name, Def: oper(), Tie: -1, Clob: some(s, names, 3)}
	for range arities[name] {
		o.Uses = append(o.Uses, oper())
	}
	if s.next(2) == 0 {
		o.Tie = s.next(len(o.Uses))
		o.Def = o.Uses[o.Tie]
	}
	return o
}

func TestP702AgainstModel(t *testing.T) {
	s := steps(7)
	taken, refused := 0, 0
	for i := range 3000 {
		m := s.machine()
		want := mdcheck.Check(m)
		x, err := table.Make(m)
		if err != want || (x != nil) != (want == api.OK) {
			t.Fatalf("machine %d: %v, error %d, want error %d: %s", i, x != nil, err, want, desc.Print(m))
		}
		if err != api.OK {
			refused++
			continue
		}
		taken++
		if got, want := told(x), told(newModel(m)); got != want {
			t.Fatalf("machine %d: %s\n%s", i, differ(got, want), desc.Print(m))
		}
	}
	if taken < 500 || refused < 100 {
		t.Errorf("%d machines taken, %d refused: too few", taken, refused)
	}
}

// roomy gives each list of v, and those within it, spare room with more of the same in it.
func roomy(v reflect.Value) {
	walk(v, func(l reflect.Value) {
		if n := l.Len(); n > 0 {
			more := reflect.MakeSlice(l.Type(), 2*n, 2*n)
			reflect.Copy(more, l)
			reflect.Copy(more.Slice(n, 2*n), l)
			l.Set(more.Slice(0, n))
		}
	}, func(reflect.Value) {})
}

// spoil changes each text and number of v, in the spare room of its lists too, and each list's length.
func spoil(v reflect.Value) {
	walk(v, func(l reflect.Value) { l.Set(l.Slice(0, l.Cap())) }, func(x reflect.Value) {
		if x.Kind() == reflect.String {
			x.SetString("spoilt")
		} else {
			x.SetInt(x.Int() + 77)
		}
	})
}

// walk tells list each list of v, ahead of what is in it, and leaf each text and number.
func walk(v reflect.Value, list, leaf func(reflect.Value)) {
	switch v.Kind() {
	case reflect.Slice:
		list(v)
		for i := range v.Len() {
			walk(v.Index(i), list, leaf)
		}
	case reflect.Struct:
		for i := range v.NumField() {
			walk(v.Field(i), list, leaf)
		}
	default:
		leaf(v)
	}
}
