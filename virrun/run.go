package virrun

import (
	"errors"
	"strconv"
	"strings"

	"pigeonhole/api"
	"pigeonhole/ins"
	"pigeonhole/table"
)

// Kinds of events.
const (
	eventStore = 1
	eventCall  = 2
)

// run is a run of a function that virok.Check took: no block, register or operation that an instruction names is
// missing, and none is read that was not written.
type run struct {
	blocks [][]api.Ins
	ahead  []api.Ins // what is left of the block that is run
	vregs  []vreg
	ops    operations
	memory map[int]int
	oracle []int // what calls will answer
	fuel   int
	events []api.Event
}

// vreg is a virtual register: how many bits it has, its value.
type vreg struct{ width, value int }

// end is the end of a run: which it is, and what was returned. It goes up by a panic.
type end struct{ how, result int }

func (e end) Error() string { return "end " + strconv.Itoa(e.how) }

// begin is a run at its beginning.
func begin(t *table.Table, f api.Func, w api.World) *run {
	r := &run{blocks: f.Blocks, ops: all(), memory: map[int]int{}, oracle: w.Oracle, fuel: w.Fuel}
	for _, s := range f.Vregs {
		class, _ := t.Class(s)
		r.vregs = append(r.vregs, vreg{width: t.Width(class)})
	}
	for i, p := range f.Params {
		if i < len(w.Args) {
			r.write(p, w.Args[i])
		}
	}
	for _, c := range w.Mem {
		r.memory[c.Addr] = c.Value
	}
	r.goTo(0)
	return r
}

// trace runs r to its end.
func (r *run) trace() (told api.Trace) {
	defer func() {
		var e end
		// Nothing but an end panics, so there is no other error to be told.
		if err, ok := recover().(error); ok && errors.As(err, &e) {
			told = api.Trace{Events: r.events, Result: e.result, End: e.how}
		}
	}()
	for {
		r.step(r.next())
	}
}

// next is the instruction that is begun now.
func (r *run) next() api.Ins {
	if r.fuel == 0 {
		panic(end{how: api.Spent})
	}
	r.fuel--
	x := r.ahead[0]
	r.ahead = r.ahead[1:]
	return x
}

// step does what x says.
func (r *run) step(x api.Ins) {
	switch x.Kind {
	case api.KConst:
		r.write(x.D, x.N)
	case api.KCopy:
		r.write(x.D, r.read(x.A))
	case api.KOp:
		r.write(x.D, r.operate(x))
	case api.KLoad:
		r.write(x.D, r.memory[r.read(x.A)])
	case api.KStore:
		r.store(r.read(x.A), r.read(x.B))
	case api.KCall:
		r.call(x)
	case api.KBr:
		r.branch(x)
	case api.KJump:
		r.goTo(x.T)
	case api.KRet:
		panic(end{how: api.Returned, result: r.read(x.A)})
	}
}

// operate is what an operation answers.
func (r *run) operate(x api.Ins) int {
	// All classes of an operation are as wide as the Def's.
	v, ok := r.ops.do(x.Name, r.vregs[x.D].width, r.values(x.Args))
	if !ok {
		panic(end{how: api.Trapped})
	}
	return v
}

// store puts a value to the memory, which can be seen.
func (r *run) store(addr, value int) {
	r.tell(api.Event{Kind: eventStore, Args: []int{addr, value}})
	r.memory[addr] = value
}

// call calls, which can be seen, and writes what is answered where it is wanted.
func (r *run) call(x api.Ins) {
	// The name is a copy, so that it does not keep what was handed in.
	r.tell(api.Event{Kind: eventCall, Name: strings.Clone(x.Name), Args: r.values(x.Args)})
	if x.D != ins.Nowhere {
		r.write(x.D, r.answer())
	}
}

// answer is what the next call whose value is wanted answers.
func (r *run) answer() int {
	if len(r.oracle) == 0 {
		return 0
	}
	v := r.oracle[0]
	r.oracle = r.oracle[1:]
	return v
}

func (r *run) branch(x api.Ins) {
	if r.read(x.A) != 0 {
		r.goTo(x.T)
	} else {
		r.goTo(x.F)
	}
}

// goTo goes on at the beginning of block b.
func (r *run) goTo(b int) { r.ahead = r.blocks[b] }

// tell puts an event behind those that were seen.
func (r *run) tell(e api.Event) { r.events = append(r.events, e) }

func (r *run) read(v int) int { return r.vregs[v].value }

// values is the values of the registers l, in new memory.
func (r *run) values(l []int) []int {
	values := make([]int, len(l))
	for i, v := range l {
		values[i] = r.read(v)
	}
	return values
}

// write gives register v the lowest bits of n, as many as it has.
func (r *run) write(v, n int) { r.vregs[v].value = cut(n, r.vregs[v].width) }
