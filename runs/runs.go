// Package runs has what runs of functions and of machine code have in common: all that hangs on no registers.
package runs

import (
	"errors"
	"strconv"
	"strings"

	"pigeonhole/api"
)

// Kinds of events.
const (
	eventStore = 1
	eventCall  = 2
)

// Run is a run of blocks that were checked: the last instruction of each, and none else, goes on or ends the run, and
// where it goes on is a block.
type Run struct {
	blocks [][]api.Ins
	ahead  []api.Ins // what is left of the block that is run
	memory map[int]int
	oracle []int // what calls will answer
	fuel   int
	events []api.Event
}

// end is the end of a run: which it is, and what was returned. It goes up by a panic.
type end struct{ how, result int }

func (e end) Error() string { return "end " + strconv.Itoa(e.how) }

// CanBe tells whether a run may have as many steps as w has.
func CanBe(w api.World) bool { return 0 <= w.Fuel && w.Fuel <= api.MaxFuel }

// Begin is a run at its beginning.
func Begin(blocks [][]api.Ins, w api.World) *Run {
	memory := map[int]int{}
	for _, c := range w.Mem {
		memory[c.Addr] = c.Value
	}
	return &Run{blocks: blocks, ahead: blocks[0], memory: memory, oracle: w.Oracle, fuel: w.Fuel}
}

// Trace runs r to its end: step does what an instruction says.
func (r *Run) Trace(step func(api.Ins)) (told api.Trace) {
	defer func() {
		var e end
		// Nothing but an end panics, so there is no other error to be told.
		if err, ok := recover().(error); ok && errors.As(err, &e) {
			told = api.Trace{Events: r.events, Result: e.result, End: e.how}
		}
	}()
	for {
		step(r.next())
	}
}

// next is the instruction that is begun now.
func (r *Run) next() api.Ins {
	if r.fuel == 0 {
		panic(end{how: api.Spent})
	}
	r.fuel--
	x := r.ahead[0]
	r.ahead = r.ahead[1:]
	return x
}

// Trap ends a run that can't go on.
func (r *Run) Trap() { panic(end{how: api.Trapped}) }

// Return ends a run that returns that value.
func (r *Run) Return(value int) { panic(end{how: api.Returned, result: value}) }

// GoTo goes on at the beginning of block b.
func (r *Run) GoTo(b int) { r.ahead = r.blocks[b] }

// Branch goes on where x, a KBr, goes on with that value.
func (r *Run) Branch(x api.Ins, value int) {
	if value != 0 {
		r.GoTo(x.T)
	} else {
		r.GoTo(x.F)
	}
}

// Load is what the memory has at an address.
func (r *Run) Load(addr int) int { return r.memory[addr] }

// Store puts a value to the memory, which can be seen.
func (r *Run) Store(addr, value int) {
	r.tell(api.Event{Kind: eventStore, Args: []int{addr, value}})
	r.memory[addr] = value
}

// Call calls with arguments, which it keeps; this can be seen.
func (r *Run) Call(name string, args []int) {
	// The name is a copy, so that it does not keep what was handed in.
	r.tell(api.Event{Kind: eventCall, Name: strings.Clone(name), Args: args})
}

// Answer is what the next call whose value is wanted answers.
func (r *Run) Answer() int {
	if len(r.oracle) == 0 {
		return 0
	}
	v := r.oracle[0]
	r.oracle = r.oracle[1:]
	return v
}

// tell puts an event behind those that were seen.
func (r *Run) tell(e api.Event) { r.events = append(r.events, e) }
