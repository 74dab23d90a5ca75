package virrun_test

import (
	"math"
	"slices"
	"strings"
	"testing"

	"pigeonhole/api"
	"pigeonhole/mdcheck"
	"pigeonhole/virrun"
)

// binary and unary are the operations of two values and of one.
var (
	binary = []string{"add", "sub", "mul", "and", "or", "xor", "shl", "shr", "div", "rem", "lt", "eq"}
	unary  = []string{"not"}
)

// noOperations is names that are none of an operation.
func noOperations() []string {
	l := []string{"", " ", "nop", "neg", "Add", "ADD", "add ", " add", "ad", "addd", "add\x00", "gt", "ne", "const", "copy", "load", "store", "call", "br", "jump", "ret", "move", "spill", "reload", "add sub", "é"}
	return append(l, strings.Repeat("add", 100000))
}

func TestP1101Arity(t *testing.T) {
	for n, l := range map[int][]string{0: noOperations(), 1: unary, 2: binary} {
		for _, s := range l {
			if got := virrun.Arity(s); got != n {
				t.Errorf("Arity(%.20q): %d, want %d", s, got, n)
			}
		}
	}
}

// TestP1101ArityIsTheDescriptions: a description may have the operations that Arity tells, of as many uses.
func TestP1101ArityIsTheDescriptions(t *testing.T) {
	for _, s := range slices.Concat(binary, unary, noOperations()) {
		for n := range 5 {
			m := api.Machine{Name: "m", Regs: []api.Reg{{Name: "a", Width: 8}, {Name: "b", Width: 8}}, Classes: []api.Class{{Name: "k", Regs: []string{"a", "b"}}}, Result: "a"}
			m.Ops = []api.Op{{Name: s, Def: api.Oper{Class: "k"}, Uses: many(n, api.Oper{Class: "k"}), Tie: -1}}
			want := n > 0 && virrun.Arity(s) == n
			if got := mdcheck.Check(m); (got == api.OK) != want {
				t.Errorf("%.20q of %d: a description is answered %d", s, n, got)
			}
		}
	}
}

// TestP1101Doer: one that does much answers as Do does, time after time.
func TestP1101Doer(t *testing.T) {
	doer := virrun.Doer()
	for range 3 {
		for _, s := range slices.Concat(binary, unary, noOperations()) {
			for _, args := range [][]int{nil, {200}, {200, 100}, {1, 0}, {-1, -1}, {1, 2, 3}} {
				v, ok := doer(s, 8, args)
				if got, want := (done{v, ok}), do(s, 8, args...); got != want {
					t.Errorf("%.20q of %v: %v, want %v", s, args, got, want)
				}
			}
		}
	}
}

// done is what Do answers.
type done struct {
	value int
	ok    bool
}

func do(name string, width int, args ...int) done {
	v, ok := virrun.Do(name, width, args)
	return done{v, ok}
}

func isDone(t *testing.T, want done, name string, width int, args ...int) {
	t.Helper()
	if got := do(name, width, args...); got != want {
		t.Errorf("%s of %d bits of %v: %v, want %v", name, width, args, got, want)
	}
}

func TestP1101Do(t *testing.T) {
	const most, least = math.MaxInt, math.MinInt
	for _, x := range []struct {
		name        string
		width, a, b int
		want        int
	}{
		{"add", 8, 255, 1, 0}, {"add", 8, 200, 100, 44}, {"add", 64, most, 1, least}, {"add", 64, -1, -1, -2}, {"add", 63, most, 1, 0}, {"add", 1, 1, 1, 0}, {"add", 32, 1<<32 - 1, 1, 0}, {"add", 32, 1 << 31, 5, 1<<31 + 5},
		{"sub", 8, 0, 1, 255}, {"sub", 64, 0, 1, -1}, {"sub", 64, least, 1, most}, {"sub", 63, 0, 1, most}, {"sub", 1, 0, 1, 1}, {"sub", 16, 5, 3, 2},
		{"mul", 8, 16, 16, 0}, {"mul", 8, 255, 255, 1}, {"mul", 64, least, 2, 0}, {"mul", 64, -3, 5, -15}, {"mul", 64, most, most, 1}, {"mul", 63, most, most, 1}, {"mul", 1, 1, 1, 1},
		{"and", 8, 3, 5, 1}, {"and", 64, -1, least, least}, {"or", 8, 3, 5, 7}, {"or", 64, least, 1, least + 1}, {"xor", 8, 3, 5, 6}, {"xor", 64, -1, most, least}, {"xor", 8, -1, 0, 255},
		{"shl", 8, 1, 7, 128}, {"shl", 8, 1, 8, 0}, {"shl", 8, 3, 7, 128}, {"shl", 8, 1, 63, 0}, {"shl", 8, 1, 64, 1}, {"shl", 8, 1, 65, 2}, {"shl", 8, 1, 192, 1}, {"shl", 64, 1, 63, least}, {"shl", 64, 1, 64, 1}, {"shl", 64, 1, -1, least}, {"shl", 64, 1, -64, 1}, {"shl", 63, 1, 62, 1 << 62}, {"shl", 63, 1, 63, 0}, {"shl", 1, 1, 1, 0}, {"shl", 1, 1, 2, 1},
		{"shr", 8, 128, 7, 1}, {"shr", 8, 255, 8, 0}, {"shr", 8, 255, 63, 0}, {"shr", 8, 255, 64, 255}, {"shr", 8, 256 + 128, 3, 16}, {"shr", 64, -1, 63, 1}, {"shr", 64, -1, 1, most}, {"shr", 64, -1, 64, -1}, {"shr", 64, least, 62, 2}, {"shr", 63, -1, 62, 1}, {"shr", 1, 1, 1, 0}, {"shr", 1, 1, 2, 1},
		// What is shifted by is cut to the width first: of 4 bits 16 is 0.
		{"shl", 4, 1, 16, 1}, {"shl", 4, 1, 17, 2}, {"shr", 4, 8, 19, 1}, {"shl", 5, 1, 32, 1}, {"shl", 6, 1, 32, 0}, {"shl", 6, 1, 64, 1},
		{"div", 8, 7, 2, 3}, {"div", 8, 255, 16, 15}, {"div", 8, -1, 1, 255}, {"div", 64, -1, 2, most}, {"div", 64, -1, -1, 1}, {"div", 64, 1, -1, 0}, {"div", 64, least, -1, 0}, {"div", 64, least, 1, least}, {"div", 63, -1, 2, 1<<62 - 1}, {"div", 8, 0, 7, 0}, {"div", 1, 1, 1, 1}, {"div", 8, 6, 257, 6},
		{"rem", 8, 7, 4, 3}, {"rem", 8, 4, 7, 4}, {"rem", 64, -1, 10, 5}, {"rem", 64, 5, -1, 5}, {"rem", 64, -1, -1, 0}, {"rem", 64, least, -1, least}, {"rem", 8, -1, 16, 15}, {"rem", 1, 1, 1, 0},
		{"lt", 8, 1, 2, 1}, {"lt", 8, 2, 1, 0}, {"lt", 8, 2, 2, 0}, {"lt", 64, -1, 1, 0}, {"lt", 64, 1, -1, 1}, {"lt", 64, most, least, 1}, {"lt", 8, 256, 1, 1}, {"lt", 8, -1, 1, 0}, {"lt", 1, 0, 1, 1}, {"lt", 63, least, 1, 1},
		{"eq", 8, 3, 3, 1}, {"eq", 8, 3, 4, 0}, {"eq", 8, 256, 0, 1}, {"eq", 8, -1, 255, 1}, {"eq", 64, -1, -1, 1}, {"eq", 64, -1, most, 0}, {"eq", 63, -1, most, 1}, {"eq", 1, 2, 0, 1}, {"eq", 1, 3, 0, 0},
	} {
		isDone(t, done{x.want, true}, x.name, x.width, x.a, x.b)
	}
	for _, x := range [][3]int{{8, 0, 255}, {8, 255, 0}, {8, 15, 240}, {8, -1, 0}, {8, 256, 255}, {1, 0, 1}, {1, 1, 0}, {1, 2, 1}, {4, 5, 10}, {63, 0, most}, {64, 0, -1}, {64, most, least}, {64, -1, 0}} {
		isDone(t, done{x[2], true}, "not", x[0], x[1])
	}
}

func TestP1101ByZero(t *testing.T) {
	for _, s := range []string{"div", "rem"} {
		for _, width := range []int{math.MinInt, -1, 0, 1, 4, 8, 63, 64, 65, math.MaxInt} {
			for _, a := range []int{0, 1, -1, 7, math.MaxInt, math.MinInt} {
				isDone(t, done{}, s, width, a, 0)
			}
		}
		isDone(t, done{}, s, 8, 5, 256)
		isDone(t, done{}, s, 8, 5, -256)
		isDone(t, done{}, s, 1, 5, 2)
		isDone(t, done{}, s, 63, 5, math.MinInt)
		isDone(t, done{}, s, -5, 5, 2)
	}
}

func TestP1101Widths(t *testing.T) {
	values := []int{0, 1, 2, 3, -1, -2, 255, 1 << 40, math.MaxInt, math.MinInt}
	for width, as := range map[int]int{0: 1, -1: 1, -63: 1, -64: 1, -1 << 32: 1, math.MinInt: 1, math.MinInt + 1: 1, 65: 64, 66: 64, 127: 64, 128: 64, 129: 64, 1 << 32: 64, 1<<32 + 1: 64, math.MaxInt: 64} {
		for _, s := range binary {
			for _, a := range values {
				for _, b := range values {
					isDone(t, do(s, as, a, b), s, width, a, b)
				}
			}
		}
		for _, a := range values {
			isDone(t, do("not", as, a), "not", width, a)
		}
	}
}

// TestP1101Ranges: of less than 64 bits a value is from 0 on, and no greater than its bits allow.
func TestP1101Ranges(t *testing.T) {
	for width := 1; width < 64; width++ {
		for _, a := range []int{0, 1, -1, math.MaxInt, math.MinInt, 0x123456789abcdef} {
			for _, s := range slices.Concat(binary, unary) {
				got := do(s, width, many(virrun.Arity(s), a)...)
				if got.value>>width != 0 {
					t.Errorf("%s of %d bits of %d: %d", s, width, a, got.value)
				}
			}
		}
	}
}

func TestP1101NoAnswer(t *testing.T) {
	for _, s := range slices.Concat(binary, unary) {
		for n := range 6 {
			if n != virrun.Arity(s) {
				isDone(t, done{}, s, 8, many(n, 3)...)
			}
		}
		isDone(t, done{}, s, 64, many(1<<16, 3)...)
		if v, ok := virrun.Do(s, 8, nil); v != 0 || ok {
			t.Errorf("%s of nothing: %d, %v", s, v, ok)
		}
	}
	for _, s := range noOperations() {
		for n := range 4 {
			for _, width := range []int{-1, 0, 1, 8, 64, 65} {
				if got := do(s, width, many(n, 3)...); got != (done{}) {
					t.Errorf("%.20q of %d: %v", s, n, got)
				}
			}
		}
	}
}

func TestP1101AllSmallValues(t *testing.T) {
	for width := -1; width <= 4; width++ {
		for a := -18; a <= 34; a++ {
			isDone(t, modelDo("not", width, []int{a}), "not", width, a)
			for b := -18; b <= 34; b++ {
				for _, s := range binary {
					isDone(t, modelDo(s, width, []int{a, b}), s, width, a, b)
				}
			}
		}
	}
}

func TestP1101AgainstModel(t *testing.T) {
	s := steps(11)
	for range 60000 {
		name := slices.Concat(binary, unary, []string{"nop"})[s.next(14)]
		width := s.next(68) - 1
		args := []int{s.value(), s.value(), s.value()}[:max(0, virrun.Arity(name)+[]int{0, 0, 0, 0, 0, 0, 0, -1, 1}[s.next(9)])]
		isDone(t, modelDo(name, width, args), name, width, args...)
	}
}

func TestP1103DoChangesNothing(t *testing.T) {
	for _, s := range slices.Concat(binary, unary, []string{"nop"}) {
		for n := range 4 {
			room := []int{-1, math.MinInt, 1 << 40, 7, 8}
			before := slices.Clone(room)
			want := do(s, 5, slices.Clone(room[:n])...)
			for range 3 {
				if v, ok := virrun.Do(s, 5, room[:n]); (done{v, ok}) != want || !slices.Equal(room, before) {
					t.Errorf("%s of %d: %v, %v, want %v; %v", s, n, v, ok, want, room)
				}
			}
		}
	}
}
