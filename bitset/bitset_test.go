package bitset_test

import (
	"math"
	"reflect"
	"slices"
	"sync"
	"testing"

	"pigeonhole/bitset"
)

// outside are numbers that no set has; some are those of a set, but for bits that a narrower type loses.
var outside = []int{-1, -2, -63, -64, -65, -65535, -65536, 65536, 65537, 65539, 131071, 131072, 1 << 31, 1<<32 + 3, 1 << 40, math.MaxInt, math.MinInt, math.MinInt + 3}

// edges are numbers of sets at both ends, and where one word ends and the next begins.
var edges = []int{0, 1, 3, 62, 63, 64, 65, 127, 128, 4095, 4096, 32767, 32768, 65471, 65472, 65534, 65535}

// holds tells whether s has the numbers of want, which rise, and no others, as all calls tell it.
func holds(t *testing.T, what string, s bitset.Set, want ...int) {
	t.Helper()
	if got := s.List(); !slices.Equal(got, want) {
		t.Errorf("%s: List %v, want %v", what, got, want)
	}
	if s.Len() != len(want) {
		t.Errorf("%s: Len %d, want %d", what, s.Len(), len(want))
	}
	if o := bitset.Of(want); !s.Equal(o) || !o.Equal(s) {
		t.Errorf("%s: not Equal to the set of its numbers %v", what, want)
	}
	for _, n := range want {
		if !s.Has(n) {
			t.Errorf("%s: lacks %d", what, n)
		}
		if s.Equal(bitset.Of(want).Without(n)) {
			t.Errorf("%s: Equal to a set without %d", what, n)
		}
	}
	for _, l := range [][]int{outside, edges} {
		for _, n := range l {
			if s.Has(n) != slices.Contains(want, n) {
				t.Errorf("%s: Has(%d) is %v", what, n, s.Has(n))
			}
		}
	}
}

func TestP101Of(t *testing.T) {
	holds(t, "the example", bitset.Of([]int{3, 1, 3}), 1, 3)
	holds(t, "nil", bitset.Of(nil))
	holds(t, "empty", bitset.Of([]int{}))
	holds(t, "outside alone", bitset.Of(outside))
	holds(t, "edges", bitset.Of(edges), edges...)
	holds(t, "falling, twice", bitset.Of([]int{65535, 64, 63, 0, 64, 65535}), 0, 63, 64, 65535)
	holds(t, "both", bitset.Of(slices.Concat(outside, edges, outside)), edges...)
	for _, n := range edges {
		holds(t, "one", bitset.Of([]int{n}), n)
	}
	for _, n := range outside {
		holds(t, "none", bitset.Of([]int{n}))
		holds(t, "one beside", bitset.Of([]int{5, n}), 5)
	}
}

func TestP101All(t *testing.T) {
	var l []int
	for n := range 65536 {
		l = append(l, 65535-n)
	}
	s := bitset.Of(l)
	slices.Reverse(l)
	if s.Len() != 65536 || !slices.Equal(s.List(), l) {
		t.Error("not all numbers from 0 to 65535")
	}
	for _, n := range l {
		if !s.Has(n) {
			t.Fatalf("lacks %d", n)
		}
	}
	if u := s.Without(65535).With(65536); u.Len() != 65535 || !u.Equal(bitset.Of(l[:65535])) || !s.Sub(u).Equal(bitset.Of([]int{65535})) {
		t.Error("all but 65535")
	}
}

func TestP101WithWithout(t *testing.T) {
	s := bitset.Of([]int{1, 64})
	holds(t, "with one between", s.With(2), 1, 2, 64)
	holds(t, "with one behind", s.With(65535), 1, 64, 65535)
	holds(t, "with one that it has", s.With(64), 1, 64)
	holds(t, "without the last", s.Without(64), 1)
	holds(t, "without the first", s.Without(1), 64)
	holds(t, "without one that it lacks", s.Without(2), 1, 64)
	holds(t, "without one behind", s.Without(65535), 1, 64)
	holds(t, "there and back", s.With(65535).Without(65535), 1, 64)
	holds(t, "back and there", s.Without(64).With(64), 1, 64)
	for _, n := range edges {
		holds(t, "zero with", bitset.Set{}.With(n), n)
		holds(t, "zero with and without", bitset.Set{}.With(n).Without(n))
		holds(t, "zero without", bitset.Set{}.Without(n))
	}
	for _, n := range outside {
		holds(t, "with outside", s.With(n), 1, 64)
		holds(t, "without outside", s.Without(n), 1, 64)
		holds(t, "zero with outside", bitset.Set{}.With(n))
		holds(t, "zero without outside", bitset.Set{}.Without(n))
	}
}

func TestP101Two(t *testing.T) {
	a, b := bitset.Of([]int{0, 3, 63, 64}), bitset.Of([]int{3, 64, 200, 65535})
	holds(t, "and", a.And(b), 3, 64)
	holds(t, "and, turned", b.And(a), 3, 64)
	holds(t, "or", a.Or(b), 0, 3, 63, 64, 200, 65535)
	holds(t, "or, turned", b.Or(a), 0, 3, 63, 64, 200, 65535)
	holds(t, "sub", a.Sub(b), 0, 63)
	holds(t, "sub, turned", b.Sub(a), 200, 65535)
	holds(t, "the example", bitset.Of([]int{1, 2}).Sub(bitset.Of([]int{2})), 1)
	holds(t, "and itself", a.And(a), 0, 3, 63, 64)
	holds(t, "or itself", a.Or(a), 0, 3, 63, 64)
	holds(t, "sub itself", a.Sub(a))
	holds(t, "and of strangers", bitset.Of([]int{1, 65535}).And(bitset.Of([]int{2, 65534})))
	holds(t, "and, the long one's end gone", b.And(bitset.Of([]int{3})), 3)
}

func TestP101Zero(t *testing.T) {
	var z bitset.Set
	a := bitset.Of([]int{2, 70})
	holds(t, "zero", z)
	holds(t, "zero and", z.And(a))
	holds(t, "and zero", a.And(z))
	holds(t, "zero or", z.Or(a), 2, 70)
	holds(t, "or zero", a.Or(z), 2, 70)
	holds(t, "zero sub", z.Sub(a))
	holds(t, "sub zero", a.Sub(z), 2, 70)
	holds(t, "zero or zero", z.Or(z))
	if !z.Equal(bitset.Set{}) || !z.Equal(a.Sub(a)) || !a.Sub(a).Equal(z) || z.Equal(a) || a.Equal(z) {
		t.Error("Equal of the zero Set")
	}
}

func TestP101Equal(t *testing.T) {
	for i, a := range edges {
		for j, b := range edges {
			if s, u := bitset.Of([]int{a}), bitset.Of([]int{b}); s.Equal(u) != (i == j) {
				t.Errorf("Equal of %d and %d", a, b)
			}
		}
	}
	a, more := bitset.Of([]int{1, 2}), bitset.Of([]int{1, 2, 65535})
	if a.Equal(more) || more.Equal(a) || !a.Equal(more.Without(65535)) || !more.Without(65535).Equal(a) {
		t.Error("Equal of sets of unlike spans")
	}
	if a.Equal(bitset.Of([]int{1, 3})) {
		t.Error("Equal of two sets of two numbers each")
	}
}

// steps is a row of numbers that is the same on every run.
type steps uint64

func (s *steps) next(below int) int {
	*s = *s*6364136223846793005 + 1442695040888963407
	return int(uint64(*s)>>33) % below
}

// model is a set as a map has it.
type model map[int]struct{}

func (m model) list() []int {
	var l []int
	for n := range m {
		l = append(l, n)
	}
	slices.Sort(l)
	return l
}

// put is the model of what take tells of the numbers of a and b.
func put(a, b model, take func(inA, inB bool) bool) model {
	m := model{}
	for _, from := range []model{a, b} {
		for n := range from {
			_, inA := a[n]
			_, inB := b[n]
			if take(inA, inB) {
				m[n] = struct{}{}
			}
		}
	}
	return m
}

func TestP101AgainstModel(t *testing.T) {
	s := steps(7)
	for round := range 300 {
		span := []int{10, 70, 200, 65536}[round%4]
		var sets [2]bitset.Set
		var models [2]model
		for i := range sets {
			var l []int
			models[i] = model{}
			for range s.next(40) {
				n := s.next(span)
				l = append(l, n, outside[s.next(len(outside))])
				models[i][n] = struct{}{}
			}
			sets[i] = bitset.Of(l)
			for range s.next(10) {
				n, gone := s.next(span), s.next(span)
				sets[i] = sets[i].With(n).Without(gone)
				models[i][n] = struct{}{}
				delete(models[i], gone)
			}
		}
		a, b, ma, mb := sets[0], sets[1], models[0], models[1]
		holds(t, "a", a, ma.list()...)
		holds(t, "b", b, mb.list()...)
		holds(t, "and", a.And(b), put(ma, mb, func(x, y bool) bool { return x && y }).list()...)
		holds(t, "or", a.Or(b), put(ma, mb, func(x, y bool) bool { return x || y }).list()...)
		holds(t, "sub", a.Sub(b), put(ma, mb, func(x, y bool) bool { return x && !y }).list()...)
		if a.Equal(b) != slices.Equal(ma.list(), mb.list()) {
			t.Errorf("Equal of %v and %v", ma.list(), mb.list())
		}
		if t.Failed() {
			t.Fatalf("round %d", round)
		}
	}
}

func TestP102NoCallChangesASet(t *testing.T) {
	la, lb := []int{0, 5, 63, 64, 300, 65535}, []int{0, 1, 2, 5, 63, 64, 301}
	a, b := bitset.Of(la), bitset.Of(lb)
	var z bitset.Set
	for _, s := range []bitset.Set{a, b, z} {
		for _, n := range slices.Concat(edges, outside, la, lb) {
			s.Has(n)
			s.With(n)
			s.Without(n)
		}
		for _, u := range []bitset.Set{a, b, z} {
			s.And(u)
			s.Or(u)
			s.Sub(u)
			s.Equal(u)
		}
		s.Len()
		s.List()
		holds(t, "a", a, la...)
		holds(t, "b", b, lb...)
		holds(t, "zero", z)
	}
}

func TestP102AnswersShareNothing(t *testing.T) {
	a := bitset.Of([]int{1, 64, 130})
	// Each is made of a by a call that might have handed a on; then others are made of these.
	same := []bitset.Set{a, a.With(1), a.With(-1), a.With(65536), a.Without(2), a.Without(-1), a.Without(65535), a.Or(bitset.Set{}), bitset.Set{}.Or(a), a.And(a), a.Or(a), a.Sub(bitset.Set{})}
	for _, s := range same {
		x, y := s.With(2), s.With(3)
		v, w := s.Without(130), s.Without(1)
		holds(t, "with 2", x, 1, 2, 64, 130)
		holds(t, "with 3", y, 1, 3, 64, 130)
		holds(t, "without 130", v, 1, 64)
		holds(t, "without 1", w, 64, 130)
		holds(t, "without 130, with 131", v.With(131), 1, 64, 131)
		holds(t, "without 130, with 132", v.With(132), 1, 64, 132)
		holds(t, "without 130, or", v.Or(bitset.Of([]int{133})), 1, 64, 133)
	}
	for _, s := range same {
		holds(t, "all are as they were", s, 1, 64, 130)
	}
}

func TestP102ListIsNew(t *testing.T) {
	s := bitset.Of([]int{1, 64, 130})
	l, k := s.List(), s.List()
	for i := range l {
		l[i] = 9
	}
	if !slices.Equal(k, []int{1, 64, 130}) {
		t.Error("two lists share memory")
	}
	holds(t, "its list was changed", s, 1, 64, 130)
	l = append(s.List()[:1], 7, 8)
	holds(t, "its list went on", s, 1, 64, 130)
	if !slices.Equal(l, []int{1, 7, 8}) {
		t.Error("a list that went on")
	}
}

func TestP102WhatIsHandedIn(t *testing.T) {
	room := []int{3, 65536, 1, 3, -1, 77, 78, 79}
	before := slices.Clone(room)
	s := bitset.Of(room[:5])
	holds(t, "the list's numbers alone", s, 1, 3)
	if !slices.Equal(room, before) {
		t.Errorf("the list that was handed in, or its spare room, is %v", room)
	}
	for i := range room {
		room[i] = 40 + i
	}
	holds(t, "the list was changed", s, 1, 3)
	holds(t, "and on", s.With(2), 1, 2, 3)
}

func TestP102SameNumbersSameSet(t *testing.T) {
	a := bitset.Of([]int{1, 70})
	for i, s := range []bitset.Set{bitset.Of([]int{70, 1, -1, 70}), a.With(65535).Without(65535), a.Or(bitset.Of([]int{500})).Sub(bitset.Of([]int{500})), a.And(bitset.Of([]int{1, 2, 70, 900})), bitset.Set{}.With(70).With(1)} {
		if !s.Equal(a) || !reflect.DeepEqual(s.List(), a.List()) {
			t.Errorf("%d: it can be told how the set was made", i)
		}
	}
}

func TestP102AtOneTime(t *testing.T) {
	a, b := bitset.Of([]int{1, 64, 130}), bitset.Of([]int{64, 65535})
	var wait sync.WaitGroup
	fault := make([]bool, 8)
	for i := range fault {
		wait.Go(func() {
			for n := range 200 {
				x := a.With(200 + n).Or(b).Without(200 + n).Sub(b)
				fault[i] = fault[i] || !slices.Equal(x.List(), []int{1, 130}) || a.Len() != 3
			}
		})
	}
	wait.Wait()
	if slices.Contains(fault, true) {
		t.Error("sets that are asked at one time change")
	}
}
