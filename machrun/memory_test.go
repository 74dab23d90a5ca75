package machrun_test

import (
	"fmt"
	"math"
	"reflect"
	"strings"
	"sync"
	"testing"
	"unsafe"

	"pigeonhole/api"
	"pigeonhole/machrun"
)

// TestP1301NotLookedAt: what a kind does not name may be anything.
func TestP1301NotLookedAt(t *testing.T) {
	x := tableOf(t, wideText)
	named := map[int]string{
		api.KConst: "DN", api.KCopy: "DA", api.KOp: "Dna", api.KLoad: "DA", api.KStore: "AB", api.KCall: "DnN", api.KBr: "ATF", api.KJump: "T", api.KRet: "",
		api.KSpill: "AN", api.KReload: "DN",
	}
	for _, n := range []int{-1, 1, 3, 1000, math.MaxInt, math.MinInt} {
		c := sum(t)
		for _, block := range c.Blocks {
			for i := range block {
				y := &block[i]
				for part, set := range map[string]func(){
					"D": func() { y.D = n }, "A": func() { y.A = n }, "B": func() { y.B = n }, "N": func() { y.N = n }, "T": func() { y.T = n }, "F": func() { y.F = n },
					"n": func() { y.Name = "no name" }, "a": func() { y.Args = many(30, n) },
				} {
					if !strings.Contains(named[y.Kind], part) {
						set()
					}
				}
			}
		}
		isTold(t, fmt.Sprint(n), run(t, x, c, summing()), summed)
	}
}

// roomy is sum and its world, with room behind each list, in which something stands.
func roomy(t testing.TB) (api.Code, api.World) {
	c, w := sum(t), summing()
	for i, b := range c.Blocks {
		for k, x := range b {
			b[k].Args = append(x.Args, 7, 8)[:len(x.Args)]
		}
		c.Blocks[i] = append(b, api.Ins{Kind: 7}, api.Ins{Kind: 8})[:len(b)]
	}
	c.Blocks = append(c.Blocks, nil, []api.Ins{{Kind: 9}})[:3]
	w.Args, w.Oracle, w.Init = append(w.Args, 9)[:1], append(w.Oracle, 70)[:2], append(w.Init, 8, 9)[:4]
	w.Mem = append(w.Mem, api.Cell{Addr: 1, Value: 99})[:3]
	return c, w
}

// whole is all of c and w, with the room behind each list.
func whole(c api.Code, w api.World) []any {
	l := []any{w.Args[:2], w.Mem[:4], w.Oracle[:3], w.Init[:6], c.Name, c.Slots, w.Fuel, w.Junk}
	for _, b := range c.Blocks[:3] {
		for _, x := range b[:len(b)+2] {
			l = append(l, x.Args[:cap(x.Args)])
			x.Args = nil
			l = append(l, x)
		}
	}
	return append(l, c.Blocks[3:5])
}

func TestP1302ArgumentsAreNotChanged(t *testing.T) {
	x := tableOf(t, wideText)
	before := x.Machine()
	c, w := roomy(t)
	for range 3 {
		isTold(t, "roomy", run(t, x, c, w), summed)
		d, v := roomy(t)
		if !reflect.DeepEqual(whole(c, w), whole(d, v)) {
			t.Fatal("what was handed in is changed")
		}
	}
	if !reflect.DeepEqual(before, x.Machine()) {
		t.Error("the table is changed")
	}
}

// TestP1302NewMemory: what is answered has nothing in common with what was handed in, nor its lists with each other.
func TestP1302NewMemory(t *testing.T) {
	x := tableOf(t, wideText)
	c, w := roomy(t)
	r := run(t, x, c, w)
	for i, b := range c.Blocks {
		for k := range b {
			for n := range b[k].Args {
				b[k].Args[n] = 77
			}
			b[k] = api.Ins{}
		}
		c.Blocks[i] = nil
	}
	w.Args[0], w.Mem[0], w.Oracle[0], w.Init[0], w.Init[3] = 77, api.Cell{Addr: 77}, 77, 77, 77
	isTold(t, "behind a change", r, summed)
	for i, e := range r.Events {
		for k := range e.Args {
			e.Args[k] = -100 - i
		}
		_ = append(e.Args, 55, 55, 55)
	}
	_ = append(r.Regs, 55)
	isTold(t, "events written over", r, "1[-100 -100], 1[-101 -101], 1[-102 -102], 2g[-103 -103], 2h[-104], end 0 50 [50 4 4 70]")
	for i := range r.Regs {
		r.Regs[i] = -1
	}
	isTold(t, "all written over", r, "1[-100 -100], 1[-101 -101], 1[-102 -102], 2g[-103 -103], 2h[-104], end 0 50 [-1 -1 -1 -1]")
	c, w = roomy(t)
	isTold(t, "again", run(t, x, c, w), summed)
}

// TestP1302NamesAreNotKept: the name of an event is a text of its own.
func TestP1302NamesAreNotKept(t *testing.T) {
	x := tableOf(t, wideText)
	name := strings.Clone("called")
	c := api.Code{Name: "f", Blocks: [][]api.Ins{{{Kind: api.KCall, D: -1, Name: name}, {Kind: api.KRet}}}}
	r := run(t, x, c, api.World{Fuel: 2})
	if got := r.Events[0].Name; got != name || unsafe.StringData(got) == unsafe.StringData(name) {
		t.Errorf("%q holds the name that was handed in", got)
	}
}

func TestP1302SameAnswers(t *testing.T) {
	s := steps(1303)
	type asked struct {
		c    api.Code
		w    api.World
		want string
	}
	x := tableOf(t, oddText)
	g := generator{steps: &s, model: modelOf(x.Machine())}
	var l []asked
	for range 50 {
		c, w := g.code(), g.world()
		l = append(l, asked{c, w, told(run(t, x, c, w))})
	}
	other := tableOf(t, oddText)
	var wg sync.WaitGroup
	for i := range 8 {
		wg.Go(func() {
			for n := range 400 {
				y := l[(n*7+i)%len(l)]
				r, err := machrun.Run(x, y.c, y.w)
				q, _ := machrun.Run(other, y.c, y.w)
				if err != api.OK || told(r) != y.want || told(q) != y.want {
					t.Error("another answer")
					return
				}
			}
		})
	}
	wg.Wait()
}
