package geom_test

import (
	"fmt"
	"math"
	"math/big"
	"testing"

	"pigeonhole/api"
	"pigeonhole/geom"
)

// holds tells whether Lap, either way round, and Within answer as is said.
func holds(t *testing.T, a, b api.Place, lap, within bool) {
	t.Helper()
	if got := geom.Lap(a, b); got != lap {
		t.Errorf("%v laps with %v: %v", a, b, got)
	}
	if got := geom.Lap(b, a); got != lap {
		t.Errorf("%v laps with %v: %v", b, a, got)
	}
	if got := geom.Within(a, b); got != within {
		t.Errorf("%v is within %v: %v", a, b, got)
	}
}

func TestP502Ordinary(t *testing.T) {
	rax, eax, al, ah := place(0, 0, 64), place(0, 0, 32), place(0, 0, 8), place(0, 8, 8)
	holds(t, ah, rax, true, true)
	holds(t, rax, ah, true, false)
	holds(t, al, ah, false, false)
	holds(t, ah, eax, true, true)
	holds(t, eax, eax, true, true)
	holds(t, place(0, 4, 8), al, true, false)
	holds(t, place(1, 0, 8), al, false, false)
}

func TestP502Edges(t *testing.T) {
	b := place(3, 10, 10) // 10 to 19
	for _, x := range []struct {
		at, width   int
		lap, within bool
	}{
		{10, 10, true, true}, {10, 1, true, true}, {19, 1, true, true}, {11, 8, true, true}, {10, 9, true, true}, {11, 9, true, true},
		{9, 1, false, false}, {20, 1, false, false}, {0, 10, false, false}, {20, 10, false, false},
		{9, 2, true, false}, {19, 2, true, false}, {10, 11, true, false}, {9, 11, true, false}, {9, 12, true, false}, {0, 11, true, false}, {0, 40, true, false},
	} {
		holds(t, place(3, x.at, x.width), b, x.lap, x.within)
		for _, root := range []int{0, 2, 4, -3, 3 + 1<<32, math.MaxInt, math.MinInt} {
			holds(t, place(root, x.at, x.width), b, false, false)
		}
	}
	// A root may be any number.
	for _, root := range []int{-1, math.MaxInt, math.MinInt} {
		holds(t, place(root, 1, 2), place(root, 0, 3), true, true)
	}
}

// TestP502NoBits: a place without bits laps with none, and all that it has is within each one of its root.
func TestP502NoBits(t *testing.T) {
	for _, w := range []int{0, -1, -8, math.MinInt, math.MinInt + 1} {
		for _, at := range []int{0, 1, 3, 8, 100, -1, math.MinInt, math.MaxInt} {
			none := place(0, at, w)
			holds(t, none, none, false, true)
			holds(t, none, place(0, at, 0), false, true)
			for _, b := range []api.Place{place(0, 0, 8), place(0, at, 1), place(0, math.MinInt, math.MaxInt), place(0, math.MaxInt, math.MaxInt)} {
				holds(t, none, b, false, true)
				holds(t, b, none, false, false)
				b.Root = 1
				holds(t, none, b, false, false)
				holds(t, b, none, false, false)
			}
		}
	}
}

// ends is where a place's bits begin and end, as numbers without bounds.
func ends(p api.Place) (first, behind *big.Int) {
	first = big.NewInt(int64(p.At))
	return first, new(big.Int).Add(first, big.NewInt(int64(p.Width)))
}

// TestP502AllInts: near the ends of int and amid them, against numbers without bounds.
func TestP502AllInts(t *testing.T) {
	var l []int
	for _, n := range []int{math.MinInt, math.MinInt / 2, -1 << 32, 0, 1 << 32, math.MaxInt / 2, math.MaxInt} {
		for d := -2; d <= 2; d++ {
			l = append(l, n+d) // behind an end of int: at the other one
		}
	}
	var places []api.Place
	for _, at := range l {
		for _, w := range l {
			places = append(places, place(0, at, w))
		}
	}
	laps, withins := 0, 0
	for _, a := range places {
		first, behind := ends(a)
		for _, b := range places {
			from, to := ends(b)
			bits := a.Width > 0 && b.Width > 0
			lap := bits && first.Cmp(to) < 0 && from.Cmp(behind) < 0
			within := a.Width < 1 || bits && from.Cmp(first) <= 0 && behind.Cmp(to) <= 0
			holds(t, a, b, lap, within)
			if lap {
				laps++
			}
			if within && bits {
				withins++
			}
		}
		if t.Failed() {
			return
		}
	}
	if laps < 1000 || withins < 1000 {
		t.Errorf("%d lap, %d are within: too few", laps, withins)
	}
}

// TestP502BitByBit: of all small places, below 0 too.
func TestP502BitByBit(t *testing.T) {
	bits := func(p api.Place) map[string]bool {
		l := map[string]bool{}
		for i := range max(p.Width, 0) {
			l[fmt.Sprint(p.Root, " ", p.At+i)] = true
		}
		return l
	}
	var places []api.Place
	for root := range 2 {
		for at := -3; at <= 3; at++ {
			for w := -1; w <= 5; w++ {
				places = append(places, place(root, at, w))
			}
		}
	}
	for _, a := range places {
		for _, b := range places {
			of, lap, within := bits(b), false, a.Root == b.Root
			for x := range bits(a) {
				lap = lap || of[x]
				within = within && of[x]
			}
			holds(t, a, b, lap, within)
		}
	}
}

// TestP502OfRegisters: what Places tells of registers lies as they do.
func TestP502OfRegisters(t *testing.T) {
	s := steps(13)
	for range 300 {
		l := s.outer()
		names, places, err := geom.Places(l)
		if err != api.OK {
			continue
		}
		at := map[string]api.Place{}
		for i, n := range names {
			at[n] = places[i]
		}
		for _, r := range each(l) {
			for i, sub := range r.Subs {
				holds(t, at[sub.Name], at[r.Name], true, true)
				for _, other := range r.Subs[:i] {
					holds(t, at[sub.Name], at[other.Name], false, false)
				}
			}
		}
	}
}
