package mdcheck_test

import (
	"fmt"
	"math"
	"slices"
	"strings"
	"sync"
	"testing"

	"pigeonhole/api"
	"pigeonhole/mdcheck"
)

func reg(name string, width, at int, subs ...api.Reg) api.Reg {
	return api.Reg{Name: name, Width: width, At: at, Subs: subs}
}

// op is an operation of operands of the class and Fix that are told as `class:fix`; the first one is the Def.
func op(name string, tie int, operands ...string) api.Op {
	o := api.Op{Name: name, Tie: tie}
	for i, s := range operands {
		class, fix, _ := strings.Cut(s, ":")
		if i == 0 {
			o.Def = api.Oper{Class: class, Fix: fix}
		} else {
			o.Uses = append(o.Uses, api.Oper{Class: class, Fix: fix})
		}
	}
	return o
}

func class(name string, regs ...string) api.Class { return api.Class{Name: name, Regs: regs} }

// good is a machine that is taken, anew on each call.
func good() api.Machine {
	return api.Machine{
		Name: "m",
		Regs: []api.Reg{
			reg("a", 32, 0, reg("ax", 16, 0, reg("al", 8, 0), reg("ah", 8, 8)), reg("ay", 16, 16)),
			reg("b", 32, 0, reg("bx", 16, 0, reg("bl", 8, 0), reg("bh", 8, 8))),
			reg("c", 32, 0), reg("d", 32, 0), reg("e", 16, 0, reg("f", 16, 0, reg("g", 16, 0))),
		},
		Classes: []api.Class{class("r", "d", "c", "b", "a"), class("x", "ax", "ay", "bx"), class("q", "al", "ah", "bl")},
		Ops: []api.Op{
			op("add", 0, "r", "r", "r"),
			op("div", 1, "r:a", "r", "r:a"),
			op("not", -1, "q", "q"),
			op("lt", -1, "x", "x", "x:bx"),
		},
		Args: []string{"a", "bl", "c"}, Result: "a", Saved: []string{"b", "d", "g"}, Slots: 10,
	}
}

// answers tells whether good, turned, has that error.
func answers(t *testing.T, what string, want api.Errno, turns ...func(m *api.Machine)) {
	t.Helper()
	m := good()
	for _, turn := range turns {
		turn(&m)
	}
	if got := mdcheck.Check(m); got != want {
		t.Errorf("%s: error %d, want %d", what, got, want)
	}
}

func TestP601Good(t *testing.T) {
	answers(t, "good", api.OK)
	answers(t, "no operations", api.OK, func(m *api.Machine) { m.Ops = nil })
	answers(t, "no arguments, none saved, no slots", api.OK, func(m *api.Machine) { m.Args, m.Saved, m.Slots = nil, []string{}, 0 })
	answers(t, "one of each", api.OK, func(m *api.Machine) {
		*m = api.Machine{Name: "one", Regs: []api.Reg{reg("a", 2, 0, reg("b", 1, 1), reg("c", 1, 0))}, Classes: []api.Class{class("k", "c", "b")}, Result: "c", Args: []string{"c"}}
	})
	answers(t, "names of other things", api.OK, func(m *api.Machine) {
		m.Name, m.Regs[3].Name, m.Saved = "a", "add", nil
		m.Classes[0].Regs[0], m.Classes[1].Name, m.Ops = "add", "m", m.Ops[:3]
	})
	if mdcheck.Check(api.Machine{}) != api.ErrName || mdcheck.Fits(api.Machine{}, 0) || mdcheck.Pair(api.Machine{}, 0, 0) {
		t.Error("the zero machine is taken")
	}
}

// noNames is texts that no machine, register or class is named.
func noNames() []string {
	l := append(slices.Clone(words), "", "1", "9a", "a b", "a\n", " a", "a ", "a.", "-", "=", ":", "{", "#a", "a#", "ä", "\xff", "\x00", "a\x00", strings.Repeat("x", 21), strings.Repeat("x", 70000))
	return l
}

func TestP601Name(t *testing.T) {
	named := func(s string) func(m *api.Machine) { return func(m *api.Machine) { m.Name = s } }
	for _, s := range noNames() {
		answers(t, fmt.Sprintf("the name %.30q", s), api.ErrName, named(s))
		answers(t, fmt.Sprintf("the name %.30q alone", s), api.ErrName, func(m *api.Machine) { *m = api.Machine{Name: s} })
	}
	for _, s := range []string{"a", "_", "Z9", "Machine", "add", "r", "regs", strings.Repeat("x", 20)} {
		answers(t, s, api.OK, named(s))
		answers(t, s+" alone", api.ErrArg, func(m *api.Machine) { *m = api.Machine{Name: s} })
	}
}

func TestP601Registers(t *testing.T) {
	deep := reg("p7", 1, 0)
	for i := 6; i > 0; i-- {
		deep = reg(fmt.Sprint("p", i), 1, 0, deep)
	}
	row := func(n int) []api.Reg {
		var l []api.Reg
		for i := range n {
			l = append(l, reg(fmt.Sprint("o", i), 8, 0))
		}
		return l
	}
	for _, x := range []struct {
		what string
		l    []api.Reg
		err  api.Errno
	}{
		{"none", nil, api.ErrArg}, {"an empty list", []api.Reg{}, api.ErrArg},
		{"too deep", []api.Reg{deep}, api.ErrDepth}, {"too many", row(201), api.ErrLong},
		{"a word", []api.Reg{reg("op", 8, 0)}, api.ErrName}, {"twice", []api.Reg{reg("z", 8, 0), reg("z", 8, 0)}, api.ErrName},
		{"no width", []api.Reg{reg("z", 0, 0)}, api.ErrWidth}, {"too wide", []api.Reg{reg("z", 65, 0)}, api.ErrWidth},
		{"behind the end", []api.Reg{reg("z", 8, 0, reg("y", 5, 4))}, api.ErrWidth},
		{"they lap", []api.Reg{reg("z", 8, 0, reg("y", 5, 0), reg("x", 5, 3))}, api.ErrAlias},
		{"the first of two", []api.Reg{reg("z", 0, 0), reg("op", 8, 0)}, api.ErrWidth},
	} {
		answers(t, x.what, x.err, func(m *api.Machine) { m.Regs = x.l })
		answers(t, x.what+", and nothing else", x.err, func(m *api.Machine) { *m = api.Machine{Name: "m", Regs: x.l} })
		answers(t, x.what+", and no name", api.ErrName, func(m *api.Machine) { m.Name, m.Regs = "9", x.l })
	}
	answers(t, "200", api.OK, func(m *api.Machine) {
		m.Regs, m.Classes, m.Ops, m.Args, m.Result, m.Saved = row(200), []api.Class{class("k", "o199", "o0")}, nil, nil, "o199", nil
	})
}

// many is n classes beside those of good, of two registers each.
func many(n int) func(m *api.Machine) {
	return func(m *api.Machine) {
		for i := range n {
			m.Classes = append(m.Classes, class(fmt.Sprint("k", i), "al", "bl"))
		}
	}
}

func TestP601ClassesMany(t *testing.T) {
	answers(t, "64", api.OK, many(61))
	answers(t, "65", api.ErrLong, many(62))
	answers(t, "1000", api.ErrLong, many(997))
	answers(t, "65, the first no name", api.ErrLong, many(62), func(m *api.Machine) { m.Classes[0].Name = "" })
	answers(t, "65, the first without registers", api.ErrLong, many(62), func(m *api.Machine) { m.Classes[0].Regs = nil })
	answers(t, "64, the last no name", api.ErrName, many(61), func(m *api.Machine) { m.Classes[63].Name = "tie" })
	answers(t, "64, the last named as the first", api.ErrName, many(61), func(m *api.Machine) { m.Classes[63].Name = "r" })
	answers(t, "64, the last without registers", api.ErrClass, many(61), func(m *api.Machine) { m.Classes[63].Regs = nil })
	answers(t, "none", api.ErrConv, func(m *api.Machine) { m.Classes, m.Ops = nil, nil })
	answers(t, "none, with operations", api.ErrOper, func(m *api.Machine) { m.Classes = nil })
}

func TestP601ClassNames(t *testing.T) {
	for i := range 3 {
		for _, s := range append(noNames(), "a", "d", "ah", "g", "ay") {
			answers(t, fmt.Sprintf("class %d named %.30q", i, s), api.ErrName, func(m *api.Machine) { m.Classes[i].Name, m.Ops = s, nil })
			answers(t, fmt.Sprintf("class %d named %.30q, without registers", i, s), api.ErrName, func(m *api.Machine) { m.Classes[i] = class(s) })
		}
		for _, s := range []string{"m", "add", "not", "R", "a_", strings.Repeat("x", 20)} {
			answers(t, fmt.Sprintf("class %d named %q", i, s), api.OK, func(m *api.Machine) { m.Classes[i].Name, m.Ops = s, nil })
		}
		answers(t, fmt.Sprint("class ", i, " named as the one ahead of it"), api.ErrName, func(m *api.Machine) { m.Classes[i].Name = m.Classes[(i+1)%3].Name })
	}
}

func TestP601ClassRegisters(t *testing.T) {
	for _, x := range []struct {
		what string
		regs []string
		err  api.Errno
	}{
		{"none", nil, api.ErrClass}, {"an empty list", []string{}, api.ErrClass},
		{"one", []string{"g"}, api.ErrSpill}, {"two", []string{"ay", "ax"}, api.OK}, {"all of it", []string{"ax", "ay", "bx", "e", "f", "g"}, api.OK},
		{"some that lap", []string{"e", "f", "ax"}, api.OK}, {"all lap", []string{"e", "f", "g"}, api.ErrSpill},
		{"no register", []string{"z"}, api.ErrClass}, {"no register behind", []string{"ax", "bx", "z"}, api.ErrClass}, {"no register ahead", []string{"z", "ax", "bx"}, api.ErrClass},
		{"an empty name", []string{"ax", ""}, api.ErrClass}, {"a class", []string{"r", "q"}, api.ErrClass}, {"itself", []string{"ax", "x"}, api.ErrClass},
		{"twice", []string{"ax", "ax"}, api.ErrClass}, {"twice, one between", []string{"ax", "bx", "ax"}, api.ErrClass}, {"twice, at the end", []string{"ax", "bx", "ay", "ay"}, api.ErrClass},
		{"wider", []string{"ax", "bx", "a"}, api.ErrClass}, {"less wide", []string{"ax", "bx", "bl"}, api.ErrClass}, {"the first one alone", []string{"c", "bx", "ay"}, api.ErrClass},
	} {
		answers(t, x.what, x.err, func(m *api.Machine) { m.Classes[1].Regs, m.Ops = x.regs, nil })
		behind := x.err
		if behind == api.OK || behind == api.ErrSpill {
			behind = api.ErrName
		}
		answers(t, x.what+", the next one no name", behind, func(m *api.Machine) { m.Classes[1].Regs, m.Classes[2].Name = x.regs, "" })
		answers(t, x.what+", the one ahead no name", api.ErrName, func(m *api.Machine) { m.Classes[1].Regs, m.Classes[0].Name = x.regs, "" })
	}
}

// long is a machine of n registers of 1 bit, o0 and so on, in a class.
func long(n int) func(m *api.Machine) {
	return func(m *api.Machine) {
		*m = api.Machine{Name: "m", Regs: []api.Reg{reg("a", 2, 0, reg("b", 2, 0)), reg("c", 2, 0)}, Classes: []api.Class{class("k", "a", "b", "c")}, Result: "a"}
		for i := range n {
			m.Regs = append(m.Regs, reg(fmt.Sprint("o", i), 2, 0))
		}
	}
}

// firstOnes is the names of the first n registers of long.
func firstOnes(n int) []string {
	l := make([]string, n)
	for i := range l {
		l[i] = fmt.Sprint("o", i)
	}
	return l
}

func TestP601LongLists(t *testing.T) {
	for _, x := range []struct {
		n    int
		over bool
	}{{0, false}, {1, false}, {15, false}, {16, false}, {17, false}, {63, false}, {64, false}, {65, true}, {66, true}, {100, true}} {
		l := firstOnes(x.n)
		err := func(e api.Errno, over bool) api.Errno {
			if over {
				return e
			}
			return api.OK
		}
		if x.n > 1 {
			answers(t, fmt.Sprint("a class of ", x.n), err(api.ErrClass, x.over), long(100), func(m *api.Machine) { m.Classes = append(m.Classes, class("l", l...)) })
		}
		answers(t, fmt.Sprint(x.n, " clobbered"), err(api.ErrOper, x.over), long(100), func(m *api.Machine) {
			m.Ops = []api.Op{op("not", -1, "k", "k")}
			m.Ops[0].Clob = l
		})
		answers(t, fmt.Sprint(x.n, " arguments"), err(api.ErrConv, x.n > 16), long(100), func(m *api.Machine) {
			m.Args = l
			for _, r := range l {
				m.Classes = append(m.Classes, class("l"+r, r, "a", "c"))
			}
			if x.n > 60 { // no more than 64 classes
				m.Classes = append(m.Classes[:1], class("l", l[:60]...), class("h", l[60:]...))
				m.Classes[2].Regs = append(m.Classes[2].Regs, "a", "c")
			}
		})
		answers(t, fmt.Sprint(x.n, " saved"), err(api.ErrConv, x.over), long(100), func(m *api.Machine) { m.Saved = l })
	}
}

func TestP601OpsMany(t *testing.T) {
	answers(t, "all", api.OK, func(m *api.Machine) {
		m.Ops = nil
		for name, n := range arities {
			m.Ops = append(m.Ops, op(name, n-1, []string{"x", "x", "x"}[:n+1]...))
		}
	})
	for n, want := range map[int]api.Errno{13: api.OK, 14: api.ErrName, 64: api.ErrName, 65: api.ErrLong, 66: api.ErrLong, 1000: api.ErrLong} {
		answers(t, fmt.Sprint(n), want, func(m *api.Machine) {
			m.Ops = nil
			names := strings.Fields("add sub mul and or xor shl shr div rem lt eq not")
			for i := range n {
				m.Ops = append(m.Ops, op(names[i%13], -1, []string{"r", "r", "r"}[:arities[names[i%13]]+1]...))
			}
		})
	}
	answers(t, "65, the first no name", api.ErrLong, func(m *api.Machine) { m.Ops = make([]api.Op, 65) })
	answers(t, "64, the first no name", api.ErrName, func(m *api.Machine) { m.Ops = make([]api.Op, 64) })
}

func TestP601OpNames(t *testing.T) {
	for name, n := range arities {
		for uses := range 5 {
			want := api.OK
			if uses != n {
				want = api.ErrOper
			}
			o := op(name, -1, []string{"r", "r", "r", "r", "r"}[:uses+1]...)
			answers(t, fmt.Sprint(name, " of ", uses), want, func(m *api.Machine) { m.Ops = []api.Op{o} })
			answers(t, fmt.Sprint(name, " of ", uses, ", twice"), max(want, api.ErrName), func(m *api.Machine) { m.Ops = []api.Op{o, op("x", 7), o} }, func(m *api.Machine) {
				if want == api.OK {
					m.Ops[1] = op("xor", -1, "r", "r", "r")
					if name == "xor" {
						m.Ops[1].Name = "or"
					}
				}
			})
		}
		for _, s := range []string{strings.ToUpper(name), name + "_", name + " ", " " + name, name[1:], name + name} {
			if arities[s] == 0 { // `or` is what is left of `xor`
				answers(t, fmt.Sprintf("%q", s), api.ErrName, func(m *api.Machine) { m.Ops = []api.Op{op(s, -1, []string{"r", "r", "r"}[:n+1]...)} })
			}
		}
	}
	for _, s := range append(noNames(), "mov", "neg", "ret", "r", "a", "ge", "sar", "neq", "copy", "const") {
		answers(t, fmt.Sprintf("%.30q", s), api.ErrName, func(m *api.Machine) { m.Ops[0].Name = s })
		answers(t, fmt.Sprintf("%.30q, and nothing is right", s), api.ErrName, func(m *api.Machine) { m.Ops[0] = api.Op{Name: s, Tie: 9} })
		answers(t, fmt.Sprintf("%.30q behind one that can't be", s), api.ErrOper, func(m *api.Machine) { m.Ops[2].Name, m.Ops[1].Tie = s, 2 })
		answers(t, fmt.Sprintf("%.30q ahead of one that can't be", s), api.ErrName, func(m *api.Machine) { m.Ops[2].Name, m.Ops[3].Tie = s, 2 })
	}
}

// ops tells of operations, each one of a machine alone, which error they have.
func ops(t *testing.T, want api.Errno, l ...api.Op) {
	t.Helper()
	for _, o := range l {
		answers(t, fmt.Sprintf("%+v", o), want, func(m *api.Machine) { m.Ops = []api.Op{o} })
		answers(t, fmt.Sprintf("%+v, behind others", o), want, func(m *api.Machine) { m.Ops = []api.Op{op("mul", 1, "q", "r", "q")} }, func(m *api.Machine) {
			m.Ops = []api.Op{op("mul", 1, "q", "q", "q"), op("rem", -1, "x:ay", "x", "x"), o}
		})
	}
}

func TestP601Operands(t *testing.T) {
	for i := range 3 {
		with := func(s string) api.Op {
			l := []string{"x", "x", "x"}
			l[i] = s
			return op("add", -1, l...)
		}
		ops(t, api.OK, with("x"), with("x:ax"), with("x:bx"), with("x:ay"), with("x:"))
		ops(t, api.ErrOper, with(""), with("y"), with("X"), with("add"), with("ax"), with("r"), with("q"), with("r:a"), with(":ax"), with("y:ax"),
			with("x:a"), with("x:al"), with("x:e"), with("x:x"), with("x:z"), with("r:ax"), with("q:al"), with("x:ax "))
	}
	ops(t, api.OK, op("not", -1, "q", "q:ah"), op("not", -1, "q:ah", "q"), op("eq", -1, "r", "r", "r"))
	ops(t, api.ErrOper, op("not", -1, "q", "x"), op("not", -1, "r", "q"), op("lt", -1, "q", "r", "r"), op("eq", -1, "r", "r", "q"), op("eq", -1, "r", "q", "r"))
	// Unlike classes of one width may stand beside each other.
	answers(t, "classes of one width", api.OK, func(m *api.Machine) {
		m.Classes = append(m.Classes, class("y", "bx", "e", "ay"))
		m.Ops = []api.Op{op("add", -1, "x", "y", "x"), op("sub", 0, "y", "y", "x"), op("mul", 1, "x:ax", "y:e", "x:ax"), op("not", -1, "y", "x")}
	})
}

func TestP601Ties(t *testing.T) {
	both, one := []string{"x", "x", "x"}, []string{"x", "x"}
	ops(t, api.OK, op("add", -1, both...), op("add", 0, both...), op("add", 1, both...), op("not", -1, one...), op("not", 0, one...))
	for _, tie := range []int{-2, -3, 2, 3, 64, math.MaxInt, math.MinInt, 1 << 32, -1 << 32} {
		ops(t, api.ErrOper, op("add", tie, both...), op("not", tie, one...))
	}
	ops(t, api.ErrOper, op("not", 1, one...))
	ops(t, api.OK, op("add", 0, "x:ax", "x:ax", "x"), op("add", 1, "x:ax", "x", "x:ax"), op("add", 0, "x:ax", "x:ax", "x:bx"), op("add", 0, "x", "x", "x:bx"), op("not", 0, "q:al", "q:al"))
	ops(t, api.ErrOper, op("add", 0, "x:ax", "x", "x:ax"), op("add", 1, "x:ax", "x:ax", "x"), op("add", 0, "x:ax", "x", "x"), op("add", 0, "x", "x:ax", "x"),
		op("add", 1, "x", "x", "x:ax"), op("add", 0, "x:ax", "x:bx", "x"), op("add", 1, "x:ay", "x", "x:ax"), op("not", 0, "q:al", "q:ah"), op("not", 0, "q:al", "q"))
	for tie, want := range map[int]api.Errno{-1: api.OK, 0: api.ErrOper, 1: api.OK} {
		answers(t, fmt.Sprint("the tie ", tie, ", another class of the same registers"), want, func(m *api.Machine) {
			m.Classes = append(m.Classes, class("y", m.Classes[1].Regs...))
			m.Ops = []api.Op{op("add", tie, "y", "x", "y")}
		})
	}
}

func TestP601Clobs(t *testing.T) {
	with := func(l ...string) api.Op {
		o := op("add", -1, "r", "r", "r")
		o.Clob = l
		return o
	}
	ops(t, api.OK, with(), with("a"), with("al", "ah"), with("al", "ax", "a"), with("g", "f", "e"), with("d", "c", "b"))
	ops(t, api.ErrOper, with("z"), with("a", "z"), with("z", "a"), with(""), with("r"), with("add"), with("a", "a"), with("a", "b", "a"), with("b", "al", "al"), with("A"))
}

func TestP601Convention(t *testing.T) {
	for _, x := range []struct {
		what   string
		args   string
		result string
		saved  string
		err    api.Errno
	}{
		{"the least", "", "a", "", api.OK},
		{"no result", "", "", "", api.ErrConv}, {"no result, but all else", "a b", "", "d", api.ErrConv},
		{"a result that is none", "", "z", "", api.ErrConv}, {"a class as the result", "", "r", "", api.ErrConv},
		{"an inner one", "", "al", "", api.OK}, {"a result of no class", "", "bh", "", api.ErrConv}, {"a result of no class, outer", "", "e", "", api.ErrConv},
		{"arguments of any class", "ax d ay bl", "a", "", api.OK}, {"the result as an argument", "a", "a", "", api.OK}, {"one that laps with the result", "ax", "al", "", api.OK},
		{"no argument", "z", "a", "", api.ErrConv}, {"no argument behind", "a z", "a", "", api.ErrConv}, {"no argument ahead", "z a", "a", "", api.ErrConv}, {"a class", "r", "a", "", api.ErrConv},
		{"an argument twice", "a a", "b", "", api.ErrConv}, {"twice, one between", "a b a", "b", "", api.ErrConv}, {"one that laps", "a ay", "b", "", api.ErrConv},
		{"one that laps, the other way round", "ay a", "b", "", api.ErrConv}, {"one that laps, others between", "al d c a", "b", "", api.ErrConv}, {"the last two lap", "c d a ax", "b", "", api.ErrConv},
		{"of one, but apart", "al ah ay", "b", "", api.OK}, {"an argument of no class", "a bh", "b", "", api.ErrConv}, {"an argument of no class ahead", "e a", "b", "", api.ErrConv},
		{"one saved", "", "a", "b", api.OK}, {"saved ones of no class", "", "a", "bh e", api.OK}, {"saved arguments", "c d", "a", "d c", api.OK}, {"saved that lap with arguments", "ax d", "c", "a", api.OK},
		{"none saved", "", "a", "z", api.ErrConv}, {"none saved behind", "", "a", "b z", api.ErrConv}, {"none saved ahead", "", "a", "z b", api.ErrConv}, {"a class saved", "", "a", "x", api.ErrConv},
		{"saved twice", "", "a", "b b", api.ErrConv}, {"saved twice, one between", "", "a", "b c b", api.ErrConv}, {"saved that lap", "", "a", "b bl", api.ErrConv}, {"saved that lap behind", "", "a", "c d bl bx", api.ErrConv},
		{"saved in pieces", "", "a", "bl bh d", api.OK}, {"the result is saved", "", "a", "a", api.ErrConv}, {"a piece of the result is saved", "", "a", "b al", api.ErrConv},
		{"around the result is saved", "", "al", "b a d", api.ErrConv}, {"beside the result is saved", "", "al", "ah ay", api.OK}, {"the result is saved last", "", "c", "a b d c", api.ErrConv},
	} {
		turn := func(m *api.Machine) {
			m.Args, m.Result, m.Saved = strings.Fields(x.args), x.result, strings.Fields(x.saved)
		}
		answers(t, x.what, x.err, turn)
		// What can't all be in registers comes behind the convention.
		behind := x.err
		if behind == api.OK {
			behind = api.ErrSpill
		}
		answers(t, x.what+", and a class of one", behind, turn, func(m *api.Machine) { m.Classes = append(m.Classes, class("one", "g")) })
	}
	for slots, want := range map[int]api.Errno{0: api.OK, 1: api.OK, 999: api.OK, 1000: api.OK, 1001: api.ErrConv, -1: api.ErrConv, math.MaxInt: api.ErrConv, math.MinInt: api.ErrConv, 1 << 32: api.ErrConv} {
		answers(t, fmt.Sprint(slots, " slots"), want, func(m *api.Machine) { m.Slots = slots })
	}
}

func TestP601Order(t *testing.T) {
	// What is wrong of each point, alone told as that error.
	points := [][]struct {
		err  api.Errno
		turn func(m *api.Machine)
	}{
		{{api.ErrName, func(m *api.Machine) { m.Name = "op" }}},
		{{api.ErrArg, func(m *api.Machine) { m.Regs = nil }}, {api.ErrWidth, func(m *api.Machine) { m.Regs[4].Width = 65 }}, {api.ErrAlias, func(m *api.Machine) { m.Regs[0].Subs[1].At = 15 }}},
		{{api.ErrLong, many(62)}, {api.ErrName, func(m *api.Machine) { m.Classes[2].Name = "g" }}, {api.ErrClass, func(m *api.Machine) { m.Classes[2].Regs = []string{"al", "al"} }}},
		{{api.ErrLong, func(m *api.Machine) { m.Ops = make([]api.Op, 65) }}, {api.ErrName, func(m *api.Machine) { m.Ops[1].Name = "add" }}, {api.ErrOper, func(m *api.Machine) { m.Ops[1].Tie = 2 }}},
		{{api.ErrConv, func(m *api.Machine) { m.Slots = -1 }}, {api.ErrConv, func(m *api.Machine) { m.Args = []string{"a", "a"} }}},
		{{api.ErrConv, func(m *api.Machine) { m.Args = []string{"bh"} }}},
		{{api.ErrSpill, func(m *api.Machine) { m.Classes[1].Regs = []string{"bx"} }}, {api.ErrSpill, func(m *api.Machine) { m.Ops[0].Clob = []string{"a", "b", "c", "d"} }}},
	}
	for i, l := range points {
		for _, x := range l {
			answers(t, fmt.Sprint("point ", i+1), x.err, x.turn)
			for j := i + 1; j < len(points); j++ {
				for _, y := range points[j] {
					// The later one is turned first: it may need what the earlier one takes away.
					answers(t, fmt.Sprint("points ", i+1, " and ", j+1), x.err, y.turn, x.turn)
					if j < 6 {
						answers(t, fmt.Sprint("points ", i+1, ", ", j+1, " and 7"), x.err, points[6][0].turn, y.turn, x.turn)
					}
				}
			}
		}
	}
}

func TestP601Spill(t *testing.T) {
	answers(t, "a class of one", api.ErrSpill, func(m *api.Machine) { m.Classes = append(m.Classes, class("one", "c")) })
	answers(t, "a class of one ahead", api.ErrSpill, func(m *api.Machine) { m.Classes = append([]api.Class{class("one", "c")}, m.Classes...) })
	more := func(m *api.Machine) {
		m.Regs = append(m.Regs, reg("w", 4, 0, reg("v", 2, 0), reg("u", 2, 2)), reg("y", 4, 0), reg("z", 4, 0))
	}
	answers(t, "two classes, each of its own", api.OK, more, func(m *api.Machine) { m.Classes = append(m.Classes, class("vu", "v", "u"), class("wy", "w", "y")) })
	answers(t, "two classes that lap, with one that doesn't", api.OK, more, func(m *api.Machine) { m.Classes = append(m.Classes, class("yz", "y", "z"), class("wy", "w", "y")) })
	for i, l := range [][]api.Class{{class("vu", "v", "u"), class("w_", "w")}, {class("w_", "w"), class("vu", "v", "u")}} {
		answers(t, fmt.Sprint("two classes of which each laps with the other: ", i), api.ErrSpill, more, func(m *api.Machine) { m.Classes = append(m.Classes, l...) })
	}
	for i := range 4 {
		answers(t, fmt.Sprint("the operation ", i), api.ErrSpill, func(m *api.Machine) {
			for _, c := range m.Classes {
				m.Ops[i].Clob = append(m.Ops[i].Clob, c.Regs...)
			}
		})
	}
}

// two is a machine of a class k of two registers, one of which has an inner one of its width, and a class l of more.
func two(o api.Op, clob ...string) api.Machine {
	o.Clob = clob
	return api.Machine{
		Name:    "m",
		Regs:    []api.Reg{reg("a", 8, 0, reg("b", 8, 0)), reg("c", 8, 0), reg("d", 8, 0), reg("e", 8, 0)},
		Classes: []api.Class{class("one", "c"), class("lap", "a", "b"), class("k", "a", "c"), class("l", "c", "b", "d")},
		Ops:     []api.Op{o}, Result: "a",
	}
}

func TestP602Fits(t *testing.T) {
	for _, x := range []struct {
		want bool
		o    api.Op
		clob string
	}{
		// As many uses as there are registers, and one more.
		{true, op("add", -1, "k", "k", "k"), ""}, {false, op("add", -1, "one", "one", "one"), ""}, {true, op("not", -1, "one", "one"), ""}, {false, op("add", -1, "lap", "lap", "lap"), ""},
		{false, op("add", -1, "k", "lap", "lap"), ""}, {true, op("add", -1, "lap", "k", "lap"), ""}, {true, op("add", -1, "lap", "lap", "k"), ""}, {true, op("add", -1, "k", "one", "lap"), ""},
		{true, op("add", -1, "one", "one", "k"), ""}, {true, op("add", -1, "one", "k", "one"), ""}, {false, op("add", -1, "k:a", "k:a", "k:a"), ""}, {false, op("add", -1, "k", "k:a", "lap:b"), ""}, {true, op("add", -1, "k", "k:a", "k:c"), ""},
		{false, op("add", -1, "k", "k:c", "one"), ""}, {true, op("add", -1, "k:c", "k:c", "k"), ""},
		// What is destroyed is none of the Def's, be there uses or not.
		{false, op("add", -1, "k", "k", "k"), "a c"}, {true, op("add", -1, "k", "k", "k"), "a"}, {true, op("add", -1, "k", "k", "k"), "c"}, {false, op("add", -1, "k", "k", "k"), "b c"}, {true, op("add", -1, "k", "k", "k"), "b d"},
		{false, op("add", -1, "k:a", "k", "k"), "a"}, {false, op("add", -1, "k:a", "k", "k"), "b"}, {true, op("add", -1, "k:a", "k", "k"), "c d"}, {true, op("add", -1, "k", "l", "l"), "b"}, {false, op("not", -1, "one", "lap"), "c"}, {true, op("not", -1, "lap", "one"), "c"},
		{true, op("add", -1, "l", "k", "k"), "a c"}, {false, op("add", -1, "l", "k", "k"), "a d c"}, {true, op("add", -1, "l:d", "k", "k"), "a b c e"}, {false, op("add", -1, "l", "one", "one"), "a"},
		// With a Tie the Def is where the use is.
		{true, op("add", 0, "k", "k", "k"), ""}, {true, op("add", 0, "k", "k", "k"), "a"}, {true, op("add", 1, "k", "k", "k"), "c"}, {false, op("add", 0, "k", "k", "k"), "c b"},
		{false, op("add", 0, "k", "k", "k:c"), "b"}, {true, op("add", 0, "k", "k", "k:a"), "b"}, {true, op("add", -1, "k", "k", "k:c"), "b"}, {false, op("add", 1, "k", "k:c", "k"), "a"}, {true, op("add", 1, "k", "k:a", "k"), "a"}, {true, op("add", 1, "k", "k:c", "k"), "c"},
		{false, op("add", 0, "lap", "lap", "k"), "b"}, {true, op("add", 0, "lap", "lap", "k"), "c"}, {false, op("add", 0, "one", "one", "k"), "c"}, {true, op("add", 1, "one", "k", "one"), "a"}, {false, op("add", 0, "one", "one", "one"), ""},
		{true, op("not", 0, "one", "one"), ""}, {false, op("not", 0, "one", "one"), "c"}, {true, op("not", 0, "l", "l"), "c a"}, {false, op("not", 0, "l", "l"), "c a d"}, {true, op("not", 0, "l:d", "l:d"), "c a"}, {false, op("not", 0, "l:b", "l:b"), "a"},
		{true, op("add", 0, "l", "l", "one"), "a"}, {false, op("add", 0, "l", "l", "one"), "a d"}, {false, op("add", 1, "k:a", "l:b", "k:a"), ""}, {true, op("add", 1, "k:a", "l:d", "k:a"), "d"},
	} {
		m := two(x.o, strings.Fields(x.clob)...)
		if mdcheck.Fits(m, 0) != x.want {
			t.Errorf("Fits of %+v: %v", m.Ops[0], !x.want)
		}
		// In a machine of these classes but for those of one register the error says the same.
		want := api.OK
		if !x.want {
			want = api.ErrSpill
		}
		text := fmt.Sprint(x.o)
		if m.Classes = m.Classes[2:]; !strings.Contains(text, "one") && !strings.Contains(text, "lap") {
			if got := mdcheck.Check(m); got != want {
				t.Errorf("Check of %+v: error %d, want %d", m.Ops[0], got, want)
			}
		}
	}
}

func TestP602FitsNone(t *testing.T) {
	m := good()
	for _, i := range []int{-1, -2, 4, 5, 64, math.MaxInt, math.MinInt, 1 << 32} {
		if mdcheck.Fits(m, i) {
			t.Errorf("the operation %d fits", i)
		}
	}
	for i := range 4 {
		if !mdcheck.Fits(m, i) {
			t.Errorf("the operation %d does not fit", i)
		}
	}
	m.Ops = nil
	if mdcheck.Fits(m, 0) {
		t.Error("one of no operations fits")
	}
}

func TestP602Pair(t *testing.T) {
	m := two(op("not", -1, "k", "k"))
	for _, x := range []struct {
		a, b int
		want bool
	}{
		{0, 0, false}, {0, 1, true}, {0, 2, true}, {0, 3, true}, {1, 1, false}, {1, 2, true}, {1, 3, true}, {2, 2, true}, {2, 3, true}, {3, 3, true},
		{-1, 0, false}, {-1, 2, false}, {4, 0, false}, {4, 3, false}, {-1, -1, false}, {4, 4, false}, {2, math.MaxInt, false}, {2, math.MinInt, false}, {2, 1 << 32, false}, {math.MinInt, math.MaxInt, false},
	} {
		if mdcheck.Pair(m, x.a, x.b) != x.want || mdcheck.Pair(m, x.b, x.a) != x.want {
			t.Errorf("the pair of %d and %d: %v", x.a, x.b, !x.want)
		}
	}
	m.Regs = []api.Reg{reg("w", 8, 0, reg("v", 4, 0), reg("u", 4, 4)), reg("x", 4, 0)}
	m.Classes = []api.Class{class("w_", "w"), class("vu", "u", "v"), class("vux", "u", "v", "x"), class("u_", "u"), class("v_", "v")}
	for _, x := range []struct {
		a, b int
		want bool
	}{{0, 1, false}, {0, 2, true}, {1, 1, true}, {3, 4, true}, {3, 3, false}, {0, 3, false}, {1, 3, true}, {1, 4, true}} {
		if mdcheck.Pair(m, x.a, x.b) != x.want || mdcheck.Pair(m, x.b, x.a) != x.want {
			t.Errorf("inner ones: the pair of %d and %d: %v", x.a, x.b, !x.want)
		}
	}
	m.Classes = nil
	if mdcheck.Pair(m, 0, 0) {
		t.Error("a pair of no classes")
	}
}

// TestP602Refused: each call leans on the points ahead of it, and on none behind.
func TestP602Refused(t *testing.T) {
	for _, x := range []struct {
		what       string
		turn       func(m *api.Machine)
		fits, pair bool
	}{
		{"1: no name", func(m *api.Machine) { m.Name = "" }, false, false},
		{"2: registers that can't be", func(m *api.Machine) { m.Regs[4].Width = 0 }, false, false},
		{"2: no registers", func(m *api.Machine) { m.Regs = nil }, false, false},
		{"3: too many classes", many(62), false, false},
		{"3: a class behind that can't be", func(m *api.Machine) { m.Classes = append(m.Classes, class("none")) }, false, false},
		{"3: a class named as a register", func(m *api.Machine) { m.Classes[2].Name = "g" }, false, false},
		{"4: too many operations", func(m *api.Machine) { m.Ops = append(m.Ops, make([]api.Op, 61)...) }, false, true},
		{"4: an operation behind that is none", func(m *api.Machine) { m.Ops[3].Name = "gt" }, false, true},
		{"4: an operation behind that can't be", func(m *api.Machine) { m.Ops[3].Tie = 2 }, false, true},
		{"4: no class of an operation behind", func(m *api.Machine) { m.Ops[3].Uses[1].Class = "z" }, false, true},
		{"5: slots", func(m *api.Machine) { m.Slots = -1 }, true, true},
		{"5: no result", func(m *api.Machine) { m.Result = "" }, true, true},
		{"5: arguments", func(m *api.Machine) { m.Args = []string{"a", "a"} }, true, true},
		{"6: an argument of no class", func(m *api.Machine) { m.Args = []string{"bh"} }, true, true},
		{"7: an operation behind does not fit", func(m *api.Machine) { m.Ops[3].Uses[0].Fix = "bx" }, true, true},
		{"7: a class of one", func(m *api.Machine) { m.Classes = append(m.Classes, class("one", "g")) }, true, true},
	} {
		m := good()
		x.turn(&m)
		if mdcheck.Check(m) == api.OK {
			t.Errorf("%s: taken", x.what)
		}
		if mdcheck.Fits(m, 0) != x.fits {
			t.Errorf("%s: Fits is %v", x.what, !x.fits)
		}
		if mdcheck.Pair(m, 0, 1) != x.pair {
			t.Errorf("%s: Pair is %v", x.what, !x.pair)
		}
	}
}

// roomy is l with the same behind it in its room.
func roomy[T any](l []T) []T { return append(slices.Clone(l), l...)[:len(l):max(len(l)*2, len(l))] }

func TestP603NothingIsChanged(t *testing.T) {
	s := steps(63)
	for i := range 2000 {
		m := s.machine()
		for range s.next(2) {
			s.turn(&m)
		}
		m.Regs, m.Classes, m.Ops, m.Args, m.Saved = roomy(m.Regs), roomy(m.Classes), roomy(m.Ops), roomy(m.Args), roomy(m.Saved)
		for k := range m.Classes {
			m.Classes[k].Regs = roomy(m.Classes[k].Regs)
		}
		for k := range m.Ops {
			m.Ops[k].Uses, m.Ops[k].Clob = roomy(m.Ops[k].Uses), roomy(m.Ops[k].Clob)
		}
		text := func() string {
			all := fmt.Sprint(m, m.Regs[:cap(m.Regs)], m.Classes[:cap(m.Classes)], m.Ops[:cap(m.Ops)], m.Args[:cap(m.Args)], m.Saved[:cap(m.Saved)])
			for _, c := range m.Classes {
				all += fmt.Sprint(c.Regs[:cap(c.Regs)])
			}
			for _, o := range m.Ops {
				all += fmt.Sprint(o.Uses[:cap(o.Uses)], o.Clob[:cap(o.Clob)])
			}
			return all
		}
		before, want := text(), mdcheck.Check(m)
		fits, pair := mdcheck.Fits(m, 0), mdcheck.Pair(m, 0, 0)
		if mdcheck.Check(m) != want || mdcheck.Fits(m, 0) != fits || mdcheck.Pair(m, 0, 0) != pair {
			t.Fatalf("machine %d: another answer", i)
		}
		if text() != before {
			t.Fatalf("machine %d is changed", i)
		}
	}
}

func TestP603AtOneTime(t *testing.T) {
	fine, bad := good(), good()
	bad.Classes[1].Regs = []string{"ay"}
	var wg sync.WaitGroup
	for range 8 {
		wg.Go(func() {
			for range 100 {
				if mdcheck.Check(fine) != api.OK || mdcheck.Check(bad) != api.ErrOper || !mdcheck.Fits(fine, 1) || mdcheck.Fits(bad, 1) || !mdcheck.Pair(fine, 1, 1) || mdcheck.Pair(bad, 1, 1) {
					t.Error("another answer")
					return
				}
			}
		})
	}
	wg.Wait()
}

// TestP603Ends: what is within bounds, but as slow as may be.
func TestP603Ends(t *testing.T) {
	answers(t, "64 classes of 64 registers, all of which lap with the last class", api.ErrSpill, func(m *api.Machine) {
		*m = api.Machine{Name: "m", Regs: []api.Reg{reg("w", 64, 0)}, Result: "w"}
		var l []string
		for i := range 64 {
			l = append(l, fmt.Sprint("b", i))
			m.Regs[0].Subs = append(m.Regs[0].Subs, reg(l[i], 1, i))
		}
		for i := range 63 {
			m.Classes = append(m.Classes, class(fmt.Sprint("k", i), l...))
		}
		m.Classes = append(m.Classes, class("w_", "w"))
	})
	m := api.Reg{Name: "w", Width: 8, Subs: make([]api.Reg, 1)}
	m.Subs[0] = api.Reg{Name: "v", Width: 8, Subs: m.Subs}
	answers(t, "a list that holds itself", api.ErrName, func(x *api.Machine) { x.Regs = append(x.Regs, m) })
}
