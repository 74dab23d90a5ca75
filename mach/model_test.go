package mach_test

import (
	"fmt"
	"math"
	"math/big"
	"regexp"
	"slices"
	"strconv"
	"strings"

	"pigeonhole/api"
)

// A model of the chapter: a description's own words are asked, bit by bit; a line is held against one expression for
// each kind.

const nameForm = `[A-Za-z_][A-Za-z_0-9]{0,19}`

var oneName = regexp.MustCompile(`\A` + nameForm + `\z`)

// model is a machine, its registers in their order, and of each the bits that it has.
type model struct {
	m     api.Machine
	names []string
	bits  []map[string]int
	kinds []kind
}

func modelOf(m api.Machine) *model {
	o := &model{m: m}
	for _, r := range m.Regs {
		o.add(r, r.Name, 0)
	}
	o.kinds = o.forms()
	return o
}

func (o *model) add(r api.Reg, root string, from int) {
	own := map[string]int{}
	for k := range r.Width {
		own[fmt.Sprint(root, " ", from+r.At+k)]++
	}
	o.names, o.bits = append(o.names, r.Name), append(o.bits, own)
	for _, s := range r.Subs {
		o.add(s, root, from+r.At)
	}
}

func (o *model) reg(name string) int { return slices.Index(o.names, name) }

func (o *model) isReg(r int) bool { return r >= 0 && r < len(o.names) }

// lap tells whether two registers have a bit in common.
func (o *model) lap(a, b int) bool {
	for k := range o.bits[a] {
		if o.bits[b][k] > 0 {
			return true
		}
	}
	return false
}

// op is the machine's operation of that name.
func (o *model) op(name string) (api.Op, bool) {
	i := slices.IndexFunc(o.m.Ops, func(op api.Op) bool { return op.Name == name })
	if i < 0 {
		return api.Op{}, false
	}
	return o.m.Ops[i], true
}

// may tells whether an operand of that class and Fix may be register r.
func (o *model) may(x api.Oper, r int) bool {
	in := func(k api.Class) bool { return k.Name == x.Class && slices.Contains(k.Regs, o.names[r]) }
	return slices.ContainsFunc(o.m.Classes, in) && (x.Fix == "" || x.Fix == o.names[r])
}

// fits tells whether an operation of the machine may have that D and those Args.
func (o *model) fits(op api.Op, d int, args []int) bool {
	ok := o.may(op.Def, d)
	for _, s := range op.Clob {
		ok = ok && !o.lap(d, o.reg(s))
	}
	for i, u := range op.Uses {
		ok = ok && o.may(u, args[i])
	}
	return ok && (op.Tie < 0 || d == args[op.Tie])
}

// answer is what Check answers.
type answer struct {
	block, ins int
	err        api.Errno
}

// check is what Check should answer.
func (o *model) check(c api.Code) answer {
	if err := o.head(c); err != api.OK {
		return answer{0, 0, err}
	}
	for b, l := range c.Blocks {
		if len(l) < 1 || len(l) > 25600 {
			return answer{b, 0, api.ErrBlock}
		}
		for i, x := range l {
			if err := o.ins(c, x, i+1 == len(l)); err != api.OK {
				return answer{b, i, err}
			}
		}
	}
	return answer{}
}

func (o *model) head(c api.Code) api.Errno {
	switch {
	case len(c.Blocks) > 200:
		return api.ErrLong
	case !oneName.MatchString(c.Name):
		return api.ErrName
	case c.Slots < 0 || c.Slots > o.m.Slots:
		return api.ErrSlot
	case len(c.Blocks) == 0:
		return api.ErrBlock
	}
	return api.OK
}

// named is the letters of what a kind names: D, A, B, n the Name, a the Args, N, s (an N that is a slot), T, F.
func named(kind int) string {
	return []string{"", "DN", "DA", "Dna", "DA", "AB", "DnN", "ATF", "T", "", "As", "Ds"}[kind]
}

func (o *model) ins(c api.Code, x api.Ins, last bool) api.Errno {
	if x.Kind < 1 || x.Kind > 11 || last != (x.Kind == 7 || x.Kind == 8 || x.Kind == 9) {
		return api.ErrIns
	}
	if x.Kind == 6 {
		if !oneName.MatchString(x.Name) || x.N < 0 || x.N > len(o.m.Args) || x.D != -1 && x.D != 0 {
			return api.ErrIns
		}
		return api.OK
	}
	op, isOp := o.op(x.Name)
	if x.Kind == 3 && (!isOp || len(x.Args) != len(op.Uses)) {
		return api.ErrIns
	}
	var regs, blocks []int
	for _, part := range named(x.Kind) {
		switch part {
		case 'D':
			regs = append(regs, x.D)
		case 'A':
			regs = append(regs, x.A)
		case 'B':
			regs = append(regs, x.B)
		case 'a':
			regs = append(regs, x.Args...)
		case 'T':
			blocks = append(blocks, x.T)
		case 'F':
			blocks = append(blocks, x.F)
		}
	}
	for _, r := range regs {
		if !o.isReg(r) {
			return api.ErrReg
		}
	}
	if x.Kind == 2 && len(o.bits[x.D]) != len(o.bits[x.A]) || x.Kind == 3 && !o.fits(op, x.D, x.Args) {
		return api.ErrReg
	}
	if strings.Contains(named(x.Kind), "s") && (x.N < 0 || x.N >= c.Slots) {
		return api.ErrSlot
	}
	for _, b := range blocks {
		if b < 0 || b >= len(c.Blocks) {
			return api.ErrBlock
		}
	}
	return api.OK
}

// line is the line of x.
func (o *model) line(x api.Ins) string {
	name := func(r int) string {
		if !o.isReg(r) {
			return fmt.Sprint("R", r)
		}
		return o.names[r]
	}
	switch x.Kind {
	case 1:
		return fmt.Sprintf("  %s = const %d\n", name(x.D), x.N)
	case 2:
		return fmt.Sprintf("  %s = move %s\n", name(x.D), name(x.A))
	case 3:
		s := fmt.Sprintf("  %s = %s", name(x.D), x.Name)
		for _, r := range x.Args {
			s += " " + name(r)
		}
		return s + "\n"
	case 4:
		return fmt.Sprintf("  %s = load %s\n", name(x.D), name(x.A))
	case 5:
		return fmt.Sprintf("  store %s %s\n", name(x.A), name(x.B))
	case 6:
		if x.D == -1 {
			return fmt.Sprintf("  call %s %d\n", x.Name, x.N)
		}
		return fmt.Sprintf("  %s = call %s %d\n", o.m.Result, x.Name, x.N)
	case 7:
		return fmt.Sprintf("  br %s %d %d\n", name(x.A), x.T, x.F)
	case 8:
		return fmt.Sprintf("  jump %d\n", x.T)
	case 9:
		return "  ret\n"
	case 10:
		return fmt.Sprintf("  spill %d %s\n", x.N, name(x.A))
	}
	return fmt.Sprintf("  %s = reload %d\n", name(x.D), x.N)
}

// print is the text of c, whether Check takes it or not.
func (o *model) print(c api.Code) string {
	var s strings.Builder
	fmt.Fprintf(&s, "code %s\nslots %d\n", c.Name, c.Slots)
	for _, l := range c.Blocks {
		s.WriteString("block\n")
		for _, x := range l {
			s.WriteString(o.line(x))
		}
	}
	return s.String() + "end\n"
}

// kind is one kind of lines: those of that form, and the instruction that is made of what is caught there.
type kind struct {
	form *regexp.Regexp
	make func(caught []string) (api.Ins, bool)
}

// forms is the kinds of lines of instructions.
func (o *model) forms() []kind {
	words := strings.NewReplacer("REG", "("+strings.Join(o.names, "|")+")", "RESULT", "(?:"+o.m.Result+")", "NAME", "("+nameForm+")", "NUMBER", "(0|[1-9][0-9]{0,4})", "WHOLE", "(0|-?[1-9][0-9]*)")
	of := func(form string, make func(s []string) (api.Ins, bool)) kind {
		return kind{regexp.MustCompile(`\A` + words.Replace(form) + `\n\z`), make}
	}
	sure := func(make func(s []string) api.Ins) func(s []string) (api.Ins, bool) {
		return func(s []string) (api.Ins, bool) { return make(s), true }
	}
	number := func(s string) int { n, _ := strconv.Atoi(s); return n }
	return []kind{
		of("  REG = const WHOLE", func(s []string) (api.Ins, bool) {
			n, _ := new(big.Int).SetString(s[1], 10)
			return api.Ins{Kind: 1, D: o.reg(s[0]), N: int(n.Int64())}, n.IsInt64()
		}),
		of("  REG = move REG", sure(func(s []string) api.Ins { return api.Ins{Kind: 2, D: o.reg(s[0]), A: o.reg(s[1])} })),
		of("  REG = NAME REG(?: REG)?", func(s []string) (api.Ins, bool) {
			x := api.Ins{Kind: 3, D: o.reg(s[0]), Name: s[1], Args: []int{o.reg(s[2])}}
			if s[3] != "" {
				x.Args = append(x.Args, o.reg(s[3]))
			}
			return x, !slices.Contains([]string{"const", "move", "load", "call", "reload"}, s[1])
		}),
		of("  REG = load REG", sure(func(s []string) api.Ins { return api.Ins{Kind: 4, D: o.reg(s[0]), A: o.reg(s[1])} })),
		of("  store REG REG", sure(func(s []string) api.Ins { return api.Ins{Kind: 5, A: o.reg(s[0]), B: o.reg(s[1])} })),
		of("  call NAME NUMBER", sure(func(s []string) api.Ins { return api.Ins{Kind: 6, D: -1, Name: s[0], N: number(s[1])} })),
		of("  RESULT = call NAME NUMBER", sure(func(s []string) api.Ins { return api.Ins{Kind: 6, Name: s[0], N: number(s[1])} })),
		of("  br REG NUMBER NUMBER", sure(func(s []string) api.Ins { return api.Ins{Kind: 7, A: o.reg(s[0]), T: number(s[1]), F: number(s[2])} })),
		of("  jump NUMBER", sure(func(s []string) api.Ins { return api.Ins{Kind: 8, T: number(s[0])} })),
		of("  ret", sure(func([]string) api.Ins { return api.Ins{Kind: 9} })),
		of("  spill NUMBER REG", sure(func(s []string) api.Ins { return api.Ins{Kind: 10, N: number(s[0]), A: o.reg(s[1])} })),
		of("  REG = reload NUMBER", sure(func(s []string) api.Ins { return api.Ins{Kind: 11, D: o.reg(s[0]), N: number(s[1])} })),
	}
}

// readLine is the instruction of a line.
func (o *model) readLine(line string) (api.Ins, bool) {
	for _, k := range o.kinds {
		if s := k.form.FindStringSubmatch(line); s != nil {
			if x, ok := k.make(s[1:]); ok {
				return x, true
			}
		}
	}
	return api.Ins{}, false
}

var (
	codeLine  = regexp.MustCompile(`\Acode (` + nameForm + `)\n\z`)
	slotsLine = regexp.MustCompile(`\Aslots (0|[1-9][0-9]{0,4})\n\z`)
)

// read is what Read should answer.
func (o *model) read(s string) (api.Code, int, api.Errno) {
	if len(s) > 1048576 {
		return api.Code{}, 0, api.ErrLong
	}
	c, line := o.readLines(strings.SplitAfter(s, "\n"))
	if line > 0 {
		return api.Code{}, line, api.ErrSyntax
	}
	if got := o.check(c); got.err != api.OK {
		return api.Code{}, 0, got.err
	}
	return c, 0, api.OK
}

// readLines is the code that the lines are, or the number of the first that cannot be.
func (o *model) readLines(lines []string) (c api.Code, bad int) {
	for i, line := range lines {
		last := len(c.Blocks) - 1
		switch {
		case i == 0:
			s := codeLine.FindStringSubmatch(line)
			if s == nil {
				return c, 1
			}
			c.Name = s[1]
		case i == 1:
			s := slotsLine.FindStringSubmatch(line)
			if s == nil {
				return c, 2
			}
			c.Slots, _ = strconv.Atoi(s[1])
		case line == "block\n":
			c.Blocks = append(c.Blocks, nil)
		case line == "end\n" && i+2 == len(lines) && lines[i+1] == "":
			return c, 0
		case line == "end\n":
			return c, i + 2
		default:
			x, ok := o.readLine(line)
			if !ok || last < 0 {
				return c, i + 1
			}
			c.Blocks[last] = append(c.Blocks[last], x)
		}
	}
	return c, len(lines)
}

// steps is a row of numbers that is the same on every run.
type steps uint64

func (s *steps) next(below int) int {
	*s = *s*6364136223846793005 + 1442695040888963407
	return int(uint64(*s)>>33) % below
}

// generator makes code for a machine.
type generator struct {
	*steps
	*model
}

func one[T any](s *steps, l []T) T { return l[s.next(len(l))] }

func (g generator) any() int { return g.next(len(g.names)) }

// code is some that is taken.
func (g generator) code() api.Code {
	c := api.Code{Name: one(g.steps, []string{"f", "code", "_9", strings.Repeat("n", 20)}), Slots: g.next(g.m.Slots + 1)}
	blocks := 1 + g.next(4)
	for range blocks {
		var l []api.Ins
		for range g.next(6) {
			if x := g.body(c.Slots); x.Kind > 0 {
				l = append(l, x)
			}
		}
		end := api.Ins{Kind: 7 + g.next(3)}
		if end.Kind < 9 {
			end.T = g.next(blocks)
		}
		if end.Kind == 7 {
			end.A, end.F = g.any(), g.next(blocks)
		}
		c.Blocks = append(c.Blocks, append(l, end))
	}
	return c
}

// body is an instruction that ends no block; the zero one, where a slot is wanted and there is none.
func (g generator) body(slots int) api.Ins {
	switch kind := one(g.steps, []int{1, 2, 3, 3, 3, 4, 5, 6, 10, 11}); kind {
	case 1:
		return api.Ins{Kind: kind, D: g.any(), N: one(g.steps, []int{0, g.next(300) - 150, math.MaxInt - g.next(3), math.MinInt + g.next(3)})}
	case 2:
		return g.move()
	case 3:
		return g.operation()
	case 4:
		return api.Ins{Kind: kind, D: g.any(), A: g.any()}
	case 5:
		return api.Ins{Kind: kind, A: g.any(), B: g.any()}
	case 6:
		return api.Ins{Kind: kind, D: -g.next(2), Name: one(g.steps, []string{"f", "call", "ret", "_"}), N: g.next(len(g.m.Args) + 1)}
	case 10:
		if slots > 0 {
			return api.Ins{Kind: kind, N: g.next(slots), A: g.any()}
		}
	case 11:
		if slots > 0 {
			return api.Ins{Kind: kind, N: g.next(slots), D: g.any()}
		}
	}
	return api.Ins{}
}

func (g generator) move() api.Ins {
	for {
		x := api.Ins{Kind: 2, D: g.any(), A: g.any()}
		if len(g.bits[x.D]) == len(g.bits[x.A]) {
			return x
		}
	}
}

// operation is one whose registers may be so.
func (g generator) operation() api.Ins {
	op := one(g.steps, g.m.Ops)
	pick := func(x api.Oper) int {
		for {
			if r := g.any(); g.may(x, r) {
				return r
			}
		}
	}
	for {
		x := api.Ins{Kind: 3, Name: op.Name, D: pick(op.Def)}
		for i, u := range op.Uses {
			x.Args = append(x.Args, pick(u))
			if i == op.Tie {
				x.Args[i] = x.D
			}
		}
		if g.fits(op, x.D, x.Args) {
			return x
		}
	}
}

// odd is a number that often is none of what there is.
func (g generator) odd() int {
	return one(g.steps, []int{-2, -1, 0, 1, 2, 3, 4, 5, g.any(), len(g.names), len(g.names) + 1, 99999, 100000, math.MaxInt, math.MinInt})
}

func (g generator) oddName() string {
	return one(g.steps, []string{"", "f", "add", "not", "sub", "div", "mul", "const", "move", "9", "a b", "x\n", strings.Repeat("n", 20), strings.Repeat("n", 21)})
}

// turn changes a part of code, which is its own.
func (g generator) turn(c *api.Code) {
	switch g.next(24) {
	case 0:
		c.Name = g.oddName()
	case 1:
		c.Slots = one(g.steps, []int{-1, 0, 1, g.m.Slots, g.m.Slots + 1, g.odd()})
	case 2:
		c.Blocks = c.Blocks[min(1, len(c.Blocks)):]
	case 3:
		c.Blocks = append(c.Blocks, many(197+g.next(6), []api.Ins{{Kind: 9}})...)
	case 4:
		if len(c.Blocks) > 0 {
			c.Blocks[g.next(len(c.Blocks))] = many(g.next(3), api.Ins{Kind: 9})
		}
	default:
		g.turnIns(c)
	}
}

// turnIns changes a part of an instruction.
func (g generator) turnIns(c *api.Code) {
	if len(c.Blocks) == 0 {
		return
	}
	b := one(g.steps, c.Blocks)
	if len(b) == 0 {
		return
	}
	x := &b[g.next(len(b))]
	switch g.next(9) {
	case 0:
		x.Kind = g.next(15) - 2
	case 1:
		x.D = g.odd()
	case 2:
		x.A, x.B = g.odd(), g.odd()
	case 3:
		x.N = g.odd()
	case 4:
		x.T, x.F = g.odd(), g.odd()
	case 5:
		x.Name = g.oddName()
	case 6:
		x.Args = make([]int, g.next(5))
	case 7:
		if len(x.Args) > 0 {
			x.Args[g.next(len(x.Args))] = g.odd()
		}
	case 8:
		x.D, x.A = g.any(), g.any()
	}
}

// turnText changes a line, or a word of one.
func (g generator) turnText(text string) string {
	lines := strings.SplitAfter(text, "\n")
	at := g.next(len(lines))
	words := strings.Split(strings.TrimSuffix(lines[at], "\n"), " ")
	k := g.next(len(words))
	odd := []string{"", "0", "-1", "00", "1", "2", "99999", "100000", "const", "move", "load", "call", "reload", "add", "copy", "store", "br", "jump", "ret", "spill", "=", "block", "end", "9a", "-9223372036854775808", "9223372036854775808", g.m.Result, one(g.steps, g.names), one(g.steps, g.names)}
	switch g.next(8) {
	case 0:
		lines = slices.Delete(lines, at, at+1)
		return strings.Join(lines, "")
	case 1:
		lines = slices.Insert(lines, at, lines[g.next(len(lines))])
		return strings.Join(lines, "")
	case 2:
		words = slices.Insert(words, k, one(g.steps, odd))
	case 3:
		words = slices.Delete(words, k, k+1)
	case 4:
		words = slices.Insert(words, k, words[k])
	default:
		words[k] = one(g.steps, odd)
	}
	lines[at] = strings.Join(words, " ") + "\n"
	return strings.Join(lines, "")
}
