package mach_test

import (
	"fmt"
	"reflect"
	"slices"
	"strings"
	"sync"
	"testing"
	"unsafe"

	"pigeonhole/api"
	"pigeonhole/mach"
)

// TestP1203NotLookedAt: what a kind does not name may be anything, and is 0 in what is read.
func TestP1203NotLookedAt(t *testing.T) {
	x := tableOf(t, machineText)
	o := modelOf(x.Machine())
	for kind, y := range each()[1:] {
		kind++
		for _, n := range odd(9) {
			y := y
			for part, set := range map[string]func(){
				"D": func() { y.D = n }, "A": func() { y.A = n }, "B": func() { y.B = n }, "Ns": func() { y.N = n }, "T": func() { y.T = n }, "F": func() { y.F = n },
				"n": func() { y.Name = "no name" }, "a": func() { y.Args = many(30, n) },
			} {
				if !strings.ContainsAny(named(kind), part) {
					set()
				}
			}
			c, _ := with(y)
			is(t, x, fmt.Sprint("kind ", kind, " with ", n), c, fine)
			want, _ := with(each()[kind])
			prints(t, x, want, o.print(c))
			if got := o.print(want); got != o.print(c) {
				t.Errorf("the model prints %q", got)
			}
		}
	}
}

// lists goes over all lists of c, each with the room behind it, as memory from a byte up to another.
func lists(c api.Code) [][2]uintptr {
	var all [][2]uintptr
	add := func(p unsafe.Pointer, n int, size uintptr) {
		if n > 0 {
			all = append(all, [2]uintptr{uintptr(p), uintptr(p) + uintptr(n)*size})
		}
	}
	add(unsafe.Pointer(unsafe.SliceData(c.Blocks)), cap(c.Blocks), unsafe.Sizeof([]api.Ins{}))
	for _, b := range c.Blocks {
		add(unsafe.Pointer(unsafe.SliceData(b)), cap(b), unsafe.Sizeof(api.Ins{}))
		for _, x := range b {
			add(unsafe.Pointer(unsafe.SliceData(x.Args)), cap(x.Args), unsafe.Sizeof(0))
		}
	}
	return all
}

func TestP1203AnswersAreNew(t *testing.T) {
	x := tableOf(t, machineText)
	a, _, _ := mach.Read(x, small)
	b, _, _ := mach.Read(x, small)
	all := append(lists(a), lists(b)...)
	if len(all) != 2*(1+3+7) {
		t.Fatalf("%d lists", len(all))
	}
	slices.SortFunc(all, func(x, y [2]uintptr) int { return int(int64(x[0]) - int64(y[0])) })
	for i := 1; i < len(all); i++ {
		if all[i][0] < all[i-1][1] {
			t.Error("two lists share memory")
		}
	}
	a.Blocks[0][0].N, a.Blocks[0][4].Args[0], a.Blocks[2] = 9, 9, nil
	if !same(b, smallCode()) {
		t.Error("an answer follows another one")
	}
	prints(t, x, smallCode(), small)
}

func TestP1203TextsAreNotKept(t *testing.T) {
	x := tableOf(t, machineText)
	s := strings.Clone(small)
	from := uintptr(unsafe.Pointer(unsafe.StringData(s)))
	c, _, _ := mach.Read(x, s)
	l := []string{c.Name}
	for _, b := range c.Blocks {
		for _, y := range b {
			l = append(l, y.Name)
		}
	}
	for _, name := range l {
		if p := uintptr(unsafe.Pointer(unsafe.StringData(name))); name != "" && from <= p && p < from+uintptr(len(s)) {
			t.Errorf("%q holds the text that was handed in", name)
		}
	}
	if s != small {
		t.Error("the text is changed")
	}
}

// roomy is small with room behind each list, in which something stands.
func roomy() api.Code {
	c := smallCode()
	for i, b := range c.Blocks {
		for k, x := range b {
			b[k].Args = append(x.Args, 7, 8)[:len(x.Args)]
		}
		c.Blocks[i] = append(b, api.Ins{Kind: 7}, api.Ins{Kind: 8})[:len(b)]
	}
	c.Blocks = append(c.Blocks, nil, []api.Ins{{Kind: 9}})[:3]
	return c
}

// whole is c with the room behind each list.
func whole(c api.Code) api.Code {
	c.Blocks = slices.Clone(c.Blocks[:5])
	for i, b := range c.Blocks[:3] {
		b = slices.Clone(b[:len(b)+2])
		for k, x := range b[:len(b)-2] {
			b[k].Args = x.Args[:len(x.Args)+2]
		}
		c.Blocks[i] = b
	}
	return c
}

func TestP1203ArgumentsAreNotChanged(t *testing.T) {
	x := tableOf(t, machineText)
	before := x.Machine()
	turns := []func(c *api.Code){func(*api.Code) {}, func(c *api.Code) { c.Slots = 10 }, func(c *api.Code) { ins(c, 0, 4).Args[1] = 1 }, func(c *api.Code) { ins(c, 2, 5).Name = "ne" }}
	for i, turn := range turns {
		c, d := roomy(), roomy()
		turn(&c)
		turn(&d)
		text := mach.Print(x, c)
		if _, _, err := mach.Check(x, c); (err == api.OK) != (i == 0) || (text == "") != (i > 0) {
			t.Errorf("%d: error %d", i, err)
		}
		if !reflect.DeepEqual(whole(c), whole(d)) {
			t.Errorf("%d: what was handed in is changed", i)
		}
		// What is answered does not follow it.
		c.Blocks[0][4].Args[0], c.Blocks[1] = 9, nil
		if text != mach.Print(x, d) {
			t.Error("another text")
		}
	}
	if !reflect.DeepEqual(before, x.Machine()) {
		t.Error("the table is changed")
	}
}

// answers is some of what there is to ask of a table, told as texts.
func answers(t testing.TB) []func() string {
	x, y := tableOf(t, machineText), tableOf(t, oddText)
	var l []func() string
	for _, f := range append(faults(), fault{"small", func(*api.Code) {}, fine}) {
		c := smallCode()
		f.turn(&c)
		l = append(l, func() string { return fmt.Sprint(check(x, c), check(y, c), mach.Print(x, c), mach.Print(y, c)) })
	}
	for _, s := range []string{small, "", head, head + "end\n", head + "block\n  nop\n", textOf("a = copy b"), textOf("D = call A 3"), strings.Repeat("x", 1<<20+1)} {
		l = append(l, func() string {
			c, line, err := mach.Read(x, s)
			d, other, fault := mach.Read(y, strings.Clone(s))
			return fmt.Sprintf("%+v %d %d %+v %d %d", c, line, err, d, other, fault)
		})
	}
	return l
}

func TestP1203SameAnswers(t *testing.T) {
	l := answers(t)
	other := answers(t)
	for i, ask := range l {
		want := ask()
		l[(i+1)%len(l)]()
		if ask() != want || other[i]() != want {
			t.Errorf("%d is told in two ways", i)
		}
	}
}

func TestP1203AtOneTime(t *testing.T) {
	l := answers(t)
	var want []string
	for _, ask := range l {
		want = append(want, ask())
	}
	var wg sync.WaitGroup
	for i := range 8 {
		wg.Go(func() {
			for n := range 100 {
				if k := (n + i) % len(l); l[k]() != want[k] {
					t.Error("another answer")
					return
				}
			}
		})
	}
	wg.Wait()
}
