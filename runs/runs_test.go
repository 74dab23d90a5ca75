package runs_test

import (
	"fmt"
	"math"
	"testing"

	"pigeonhole/api"
	"pigeonhole/runs"
)

func TestCanBe(t *testing.T) {
	for fuel, want := range map[int]bool{0: true, 1: true, api.MaxFuel: true, api.MaxFuel + 1: false, -1: false, math.MaxInt: false, math.MinInt: false} {
		if runs.CanBe(api.World{Fuel: fuel}) != want {
			t.Errorf("fuel %d: not %v", fuel, want)
		}
	}
}

// played is a run in which an instruction's Kind tells what is done; the value it branches on is its A.
func played(blocks [][]api.Ins, w api.World) string {
	r := runs.Begin(blocks, w)
	trace := r.Trace(func(x api.Ins) {
		switch x.Kind {
		case api.KStore:
			r.Store(x.A, x.B)
		case api.KLoad:
			r.Call("loaded", []int{r.Load(x.A)})
		case api.KCall:
			r.Call(x.Name, []int{r.Answer()})
		case api.KBr:
			r.Branch(x, x.A)
		case api.KJump:
			r.GoTo(x.T)
		case api.KRet:
			r.Return(x.A)
		default:
			r.Trap()
		}
	})
	return fmt.Sprint(trace.Events, " ", trace.Result, " ", trace.End, " ", trace.Regs)
}

func TestRuns(t *testing.T) {
	ret := api.Ins{Kind: api.KRet, A: 6}
	w := api.World{Mem: []api.Cell{{Addr: 4, Value: 5}, {Addr: 4, Value: 8}}, Oracle: []int{2, 3}, Fuel: 5}
	for _, y := range []struct {
		what   string
		blocks [][]api.Ins
		want   string
	}{
		{"a return", [][]api.Ins{{ret}}, "[] 6 0 []"},
		{"a trap", [][]api.Ins{{{Kind: api.KOp}, ret}}, "[] 0 1 []"},
		{"no end", [][]api.Ins{{{Kind: api.KJump}}}, "[] 0 3 []"},
		{"the last step", [][]api.Ins{{{Kind: api.KJump, T: 1}}, {{Kind: api.KJump, T: 2}}, {{Kind: api.KJump, T: 3}}, {{Kind: api.KJump, T: 4}}, {ret}}, "[] 6 0 []"},
		{"one too many", [][]api.Ins{{{Kind: api.KJump, T: 1}}, {{Kind: api.KLoad}, {Kind: api.KJump, T: 2}}, {{Kind: api.KJump, T: 3}}, {{Kind: api.KJump, T: 4}}, {ret}}, "[{2 loaded [0]}] 0 3 []"},
		{"the memory", [][]api.Ins{{{Kind: api.KLoad, A: 4}, {Kind: api.KStore, A: 4, B: -1}, {Kind: api.KLoad, A: 4}, {Kind: api.KLoad, A: 9}, ret}}, "[{2 loaded [8]} {1  [4 -1]} {2 loaded [-1]} {2 loaded [0]}] 6 0 []"},
		{"answers", [][]api.Ins{{{Kind: api.KCall, Name: "h"}, {Kind: api.KCall, Name: "h"}, {Kind: api.KCall, Name: "h"}, ret}}, "[{2 h [2]} {2 h [3]} {2 h [0]}] 6 0 []"},
		{"to T", [][]api.Ins{{{Kind: api.KBr, A: math.MinInt, T: 1, F: 2}}, {ret}, {{Kind: api.KOp}}}, "[] 6 0 []"},
		{"to F", [][]api.Ins{{{Kind: api.KBr, T: 1, F: 2}}, {ret}, {{Kind: api.KOp}}}, "[] 0 1 []"},
	} {
		if got := played(y.blocks, w); got != y.want {
			t.Errorf("%s: %s, want %s", y.what, got, y.want)
		}
	}
}
