package virrun

import (
	"pigeonhole/api"
	"pigeonhole/ins"
	"pigeonhole/runs"
	"pigeonhole/table"
)

// run is a run of a function that virok.Check took: no block, register or operation that an instruction names is
// missing, and none is read that was not written.
type run struct {
	*runs.Run
	vregs []vreg
	ops   operations
}

// vreg is a virtual register: how many bits it has, its value.
type vreg struct{ width, value int }

// begin is a run at its beginning.
func begin(t *table.Table, f api.Func, w api.World) *run {
	r := &run{Run: runs.Begin(f.Blocks, w), ops: all()}
	for _, s := range f.Vregs {
		class, _ := t.Class(s)
		r.vregs = append(r.vregs, vreg{width: t.Width(class)})
	}
	for i, p := range f.Params {
		if i < len(w.Args) {
			r.write(p, w.Args[i])
		}
	}
	return r
}

// step does what x says.
func (r *run) step(x api.Ins) {
	switch x.Kind {
	case api.KConst:
		r.write(x.D, x.N)
	case api.KCopy:
		r.write(x.D, r.read(x.A))
	case api.KOp:
		r.operate(x)
	case api.KLoad:
		r.write(x.D, r.Load(r.read(x.A)))
	case api.KStore:
		r.Store(r.read(x.A), r.read(x.B))
	case api.KCall:
		r.call(x)
	case api.KBr:
		r.Branch(x, r.read(x.A))
	case api.KJump:
		r.GoTo(x.T)
	case api.KRet:
		r.Return(r.read(x.A))
	}
}

// operate writes what an operation answers.
func (r *run) operate(x api.Ins) {
	// All classes of an operation are as wide as the Def's.
	v, ok := r.ops.do(x.Name, r.vregs[x.D].width, r.values(x.Args))
	if !ok {
		r.Trap()
	}
	r.write(x.D, v)
}

// call calls, and writes what is answered where it is wanted.
func (r *run) call(x api.Ins) {
	r.Call(x.Name, r.values(x.Args))
	if x.D != ins.Nowhere {
		r.write(x.D, r.Answer())
	}
}

func (r *run) read(v int) int { return r.vregs[v].value }

// values is the values of the registers l, in new memory.
func (r *run) values(l []int) []int {
	values := make([]int, len(l))
	for i, v := range l {
		values[i] = r.read(v)
	}
	return values
}

// write gives register v the lowest bits of n, as many as it has.
func (r *run) write(v, n int) { r.vregs[v].value = cut(n, r.vregs[v].width) }
