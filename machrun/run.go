package machrun

import (
	"pigeonhole/api"
	"pigeonhole/ins"
	"pigeonhole/runs"
	"pigeonhole/table"
	"pigeonhole/virrun"
)

// run is a run of code that mach.Check took: no block, register, slot or operation that an instruction names is
// missing.
type run struct {
	*runs.Run
	regs
	slots []int
	args  []int // the arguments' registers
	steps []step
	do    func(name string, width int, args []int) (int, bool)
}

// step does what an instruction says.
type step func(*run, api.Ins)

// steps is what instructions of each kind do.
func steps() []step {
	return []step{
		api.KConst:  (*run).put,
		api.KCopy:   (*run).copy,
		api.KOp:     (*run).operate,
		api.KLoad:   (*run).load,
		api.KStore:  (*run).store,
		api.KCall:   (*run).call,
		api.KBr:     (*run).branch,
		api.KJump:   (*run).jump,
		api.KRet:    (*run).ret,
		api.KSpill:  (*run).spill,
		api.KReload: (*run).reload,
	}
}

// begin is a run at its beginning.
func begin(t *table.Table, c api.Code, w api.World) *run {
	r := &run{
		Run: runs.Begin(c.Blocks, w), regs: newRegs(t, w.Init, w.Junk),
		slots: make([]int, c.Slots), args: t.Args(), steps: steps(), do: virrun.Doer(),
	}
	for i, v := range w.Args[:min(len(w.Args), len(r.args))] {
		r.write(r.args[i], v)
	}
	return r
}

// trace runs r to its end.
func (r *run) trace() api.Trace {
	trace := r.Trace(func(x api.Ins) { r.steps[x.Kind](r, x) })
	trace.Regs = r.told()
	return trace
}

func (r *run) put(x api.Ins) { r.write(x.D, x.N) }

func (r *run) copy(x api.Ins) { r.write(x.D, r.read(x.A)) }

// operate destroys what an operation destroys, and writes what it answers of what its registers had before.
func (r *run) operate(x api.Ins) {
	v, ok := r.do(x.Name, r.t.Place(x.D).Width, r.values(x.Args))
	if !ok {
		r.Trap()
	}
	op, _ := r.t.Op(x.Name)
	r.spoil(r.t.Clob(op))
	r.write(x.D, v)
}

func (r *run) load(x api.Ins) { r.write(x.D, r.Load(r.read(x.A))) }

func (r *run) store(x api.Ins) { r.Store(r.read(x.A), r.read(x.B)) }

// call calls, destroys what is not saved, and writes what is answered where the convention has it, if it is wanted.
func (r *run) call(x api.Ins) {
	r.Call(x.Name, r.values(r.args[:x.N]))
	r.spoilLost()
	if x.D != ins.Nowhere {
		r.write(r.t.Result(), r.Answer())
	}
}

func (r *run) branch(x api.Ins) { r.Branch(x, r.read(x.A)) }

func (r *run) jump(x api.Ins) { r.GoTo(x.T) }

func (r *run) ret(api.Ins) { r.Return(r.read(r.t.Result())) }

func (r *run) spill(x api.Ins) { r.slots[x.N] = r.read(x.A) }

func (r *run) reload(x api.Ins) { r.write(x.D, r.slots[x.N]) }
