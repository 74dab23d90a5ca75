package geom_test

import (
	"fmt"
	"math"
	"reflect"
	"regexp"
	"slices"
	"strings"
	"sync"
	"testing"
	"unsafe"

	"pigeonhole/api"
	"pigeonhole/geom"
)

// reg is a register and those within it.
func reg(name string, width, at int, subs ...api.Reg) api.Reg {
	return api.Reg{Name: name, Width: width, At: at, Subs: subs}
}

func place(root, at, width int) api.Place { return api.Place{Root: root, At: at, Width: width} }

// lies tells whether the registers l are those of want, told as `name root at width`, in that order.
func lies(t *testing.T, what string, l []api.Reg, want ...string) {
	t.Helper()
	names, places, err := geom.Places(l)
	if err != api.OK {
		t.Errorf("%s: error %d", what, err)
		return
	}
	if len(names) != len(places) {
		t.Errorf("%s: %d names, %d places", what, len(names), len(places))
		return
	}
	var got []string
	for i, p := range places {
		got = append(got, fmt.Sprint(names[i], " ", p.Root, " ", p.At, " ", p.Width))
	}
	if !slices.Equal(got, want) {
		t.Errorf("%s: told as\n%q, want\n%q", what, got, want)
	}
}

// answers tells whether the registers l have that error (or none).
func answers(t *testing.T, what string, l []api.Reg, want api.Errno) {
	t.Helper()
	names, places, err := geom.Places(l)
	if err != want {
		t.Errorf("%s: error %d, want %d", what, err, want)
	}
	if err != api.OK && len(names)+len(places) > 0 {
		t.Errorf("%s: beside the error stand %q, %v", what, names, places)
	}
}

// a64 is the registers of the document's example, anew on each call.
func a64() []api.Reg {
	return []api.Reg{reg("rax", 64, 0, reg("eax", 32, 0, reg("ax", 16, 0, reg("al", 8, 0), reg("ah", 8, 8))))}
}

// chain is a register that is as many deep as is said, of one register on each way down: p1, p2 and so on.
func chain(prefix string, deep int) api.Reg {
	r := reg(fmt.Sprint(prefix, deep), 1, 0)
	for i := deep - 1; i > 0; i-- {
		r = reg(fmt.Sprint(prefix, i), 1, 0, r)
	}
	return r
}

// row is n registers of one bit each, side by side: p0, p1 and so on, each at its number if they are within another.
func row(prefix string, n int, within bool) []api.Reg {
	l := make([]api.Reg, n)
	for i := range l {
		l[i] = reg(fmt.Sprint(prefix, i), 1, 0)
		if within {
			l[i].At = i
		}
	}
	return l
}

// last is the register that is gone over last.
func last(l []api.Reg) *api.Reg {
	r := &l[len(l)-1]
	if len(r.Subs) > 0 {
		return last(r.Subs)
	}
	return r
}

func TestP501Order(t *testing.T) {
	lies(t, "none", nil)
	lies(t, "an empty list", []api.Reg{})
	lies(t, "one", []api.Reg{reg("a", 8, 0)}, "a 0 0 8")
	lies(t, "the chapter's", a64(), "rax 0 0 64", "eax 0 0 32", "ax 0 0 16", "al 0 0 8", "ah 0 8 8")
	lies(t, "empty lists within", []api.Reg{{Name: "a", Width: 8, Subs: []api.Reg{}}, {Name: "b", Width: 1}}, "a 0 0 8", "b 1 0 1")
	lies(t, "several", []api.Reg{
		reg("z", 64, 0, reg("y", 32, 16, reg("x", 8, 4, reg("w", 2, 6), reg("v", 5, 0)), reg("u", 20, 12)), reg("t", 16, 48, reg("s", 1, 15))),
		reg("r", 1, 0),
		reg("q", 10, 0, reg("p", 3, 7), reg("o", 7, 0, reg("n", 1, 1))),
		reg("m", 64, 0),
	}, "z 0 0 64", "y 0 16 32", "x 0 20 8", "w 0 26 2", "v 0 20 5", "u 0 28 20", "t 0 48 16", "s 0 63 1",
		"r 1 0 1", "q 2 0 10", "p 2 7 3", "o 2 0 7", "n 2 1 1", "m 3 0 64")
	lies(t, "those within lie behind, and stand the other way round", []api.Reg{reg("a", 4, 0, reg("b", 1, 3), reg("c", 1, 1), reg("d", 1, 2), reg("e", 1, 0))},
		"a 0 0 4", "b 0 3 1", "c 0 1 1", "d 0 2 1", "e 0 0 1")
}

func TestP501HowDeep(t *testing.T) {
	lies(t, "6 deep", []api.Reg{reg("a", 6, 0, reg("b", 5, 1, reg("c", 4, 1, reg("d", 3, 1, reg("e", 2, 1, reg("f", 1, 1))))))},
		"a 0 0 6", "b 0 1 5", "c 0 2 4", "d 0 3 3", "e 0 4 2", "f 0 5 1")
	for deep := 1; deep <= 30; deep++ {
		want := api.OK
		if deep > api.MaxDepth {
			want = api.ErrDepth
		}
		answers(t, fmt.Sprint(deep, " deep"), []api.Reg{chain("p", deep)}, want)
		answers(t, fmt.Sprint(deep, " deep, beside others"), []api.Reg{chain("q", 6), chain("p", deep), reg("r", 1, 0)}, want)
	}
	both := reg("a", 2, 0, reg("b", 1, 1), chain("p", 5))
	answers(t, "5 deep within one", []api.Reg{both}, api.OK)
	both.Subs[1] = chain("p", 6)
	answers(t, "6 deep within one", []api.Reg{both}, api.ErrDepth)
	wide := chain("p", 5)
	last([]api.Reg{wide}).Subs = []api.Reg{reg("a", 1, 0)}
	answers(t, "one of the last depth", []api.Reg{wide}, api.OK)
	wide = chain("p", 6)
	last([]api.Reg{wide}).Subs = []api.Reg{}
	answers(t, "an empty list below the last depth", []api.Reg{wide}, api.OK)
}

func TestP501RegistersThatHoldThemselves(t *testing.T) {
	for _, n := range []int{1, 2, 200} {
		l := row("p", n, false)
		for i := range l {
			l[i].Subs = l
		}
		answers(t, "registers that hold themselves", l, api.ErrName)
		l[0].Subs = nil
		l[0].Name = ""
		answers(t, "nameless registers that hold themselves", l, api.ErrName)
	}
	l := row("p", 200, false)
	l[199].Subs = l
	answers(t, "registers whose last holds them", l, api.ErrLong)
	l = row("p", 1, false)
	l[0].Subs = l
	answers(t, "6 deep above one that holds itself", []api.Reg{reg("a", 1, 0, reg("b", 1, 0, reg("c", 1, 0, reg("d", 1, 0, reg("e", 1, 0, l...)))))}, api.ErrDepth)
}

// shapes is registers of n in all, in several ways: each is taken, if there are no more than may be.
func shapes(n int) [][]api.Reg {
	within := []api.Reg{reg("a", 64, 0), reg("b", 64, 0), reg("c", 64, 0), reg("d", 64, 0)}
	left := n - len(within)
	for i := range within {
		k := min(left, 64)
		within[i].Subs = row(within[i].Name, k, true)
		left -= k
	}
	deep := row("a", (n-1)/6, false)
	for i := range deep {
		deep[i] = chain(fmt.Sprint("a", i, "_"), 6)
	}
	for len(deep)+5*((n-1)/6) < n {
		deep = append(deep, reg(fmt.Sprint("b", len(deep)), 1, 0))
	}
	below := row("a", n-1, false)
	below[n-2].Subs = row("b", 1, true)
	return [][]api.Reg{row("a", n, false), within, deep, below}
}

func TestP501HowMany(t *testing.T) {
	for i, l := range shapes(200) {
		names, places, err := geom.Places(l)
		if len(names) != 200 || len(places) != 200 || err != api.OK {
			t.Errorf("200 registers of shape %d: %d, %d, error %d", i, len(names), len(places), err)
		}
	}
	for _, n := range []int{198, 199} {
		for i, l := range shapes(n) {
			answers(t, fmt.Sprintf("%d registers of shape %d", n, i), l, api.OK)
		}
	}
	for _, n := range []int{201, 202} {
		for i, l := range shapes(n) {
			answers(t, fmt.Sprintf("%d registers of shape %d", n, i), l, api.ErrLong)
		}
	}
	answers(t, "100000 registers", row("a", 100000, false), api.ErrLong)
	answers(t, "201 registers that are nothing", make([]api.Reg, 201), api.ErrName)
}

func TestP501TheOneTooMany(t *testing.T) {
	for i := range shapes(201) {
		what := fmt.Sprintf("shape %d, the register 201 ", i)
		l := shapes(201)[i]
		last(l).Name = "reg"
		answers(t, what+"has a barred word", l, api.ErrLong)
		l = shapes(201)[i]
		last(l).Name = l[0].Name
		answers(t, what+"has the first one's name", l, api.ErrLong)
		l = shapes(201)[i]
		last(l).Width = 0
		answers(t, what+"has no bits", l, api.ErrLong)
		l = shapes(201)[i]
		last(l).At = -1
		answers(t, what+"lies below 0", l, api.ErrLong)
		l = shapes(200)[i]
		last(l).Subs = []api.Reg{{Name: "reg"}}
		answers(t, what+"is wrong, and within the one ahead of it", l, api.ErrLong)
		l = shapes(200)[i]
		last(l).Name = "reg"
		answers(t, fmt.Sprintf("shape %d, the register 200 has a barred word", i), append(l, reg("more", 1, 0)), api.ErrName)
		l = shapes(200)[i]
		last(l).Width = 65
		answers(t, fmt.Sprintf("shape %d, the register 200 is too wide", i), append(l, reg("more", 1, 0)), api.ErrWidth)
	}
	// It is too deep, too.
	l := append(row("a", 194, false), chain("b", 7))
	answers(t, "the register 201 is too deep", l, api.ErrDepth)
	answers(t, "the register 202 would be too deep", append([]api.Reg{reg("c", 1, 0)}, l...), api.ErrLong)
	answers(t, "the register 200 is too deep", l[1:], api.ErrDepth)
}

var words = []string{"machine", "reg", "at", "class", "op", "tie", "clob", "args", "result", "saved", "slots"}

var nameForm = regexp.MustCompile(`\A[A-Za-z_][A-Za-z_0-9]{0,19}\z`)

// everywhere tells whether registers have that error (or none), one of which has that name: an outer one, the first
// or the last of several, one within another, one of the last depth.
func everywhere(t *testing.T, name string, want api.Errno) {
	t.Helper()
	what := fmt.Sprintf("a register %.40q", name)
	answers(t, what, []api.Reg{reg(name, 8, 0)}, want)
	answers(t, what+" ahead of one", []api.Reg{reg(name, 8, 0), reg("other", 8, 0)}, want)
	answers(t, what+" behind one", []api.Reg{reg("other", 8, 0), reg(name, 8, 0)}, want)
	answers(t, what+" around one", []api.Reg{reg(name, 8, 0, reg("other", 8, 0))}, want)
	answers(t, what+" within one", []api.Reg{reg("other", 8, 0, reg(name, 8, 0))}, want)
	deep := []api.Reg{chain("other", 6)}
	last(deep).Name = name
	answers(t, what+" 6 deep", deep, want)
}

func TestP501Names(t *testing.T) {
	for _, s := range []string{"a", "Z", "_", "_9", "x0", "Machine", "REG", "regs", "re", "machin", "slot", "at1", "_at", "tiE", "class_", strings.Repeat("n", 20), "_" + strings.Repeat("9", 19)} {
		everywhere(t, s, api.OK)
	}
	for _, s := range append([]string{"", " ", "\n", "1", "1a", "0", "a b", " a", "a ", "a\n", "\na", "a#", "a#b", "#a", "a\x00", "a,b", "{", "}", "=", ":", "a:b", "a=", "é", "aé", "a\xff", "-1", "a-b", "a.b", "reg ", strings.Repeat("n", 21), "a" + strings.Repeat("0", 20), strings.Repeat("n", 1000000), strings.Repeat(" ", 30) + "a"}, words...) {
		everywhere(t, s, api.ErrName)
	}
	for c := range 256 {
		for _, s := range []string{string([]byte{byte(c)}), string([]byte{'a', byte(c)}), string([]byte{byte(c), 'a'})} {
			if s == "at" {
				continue
			}
			want := api.ErrName
			if nameForm.MatchString(s) {
				want = api.OK
			}
			answers(t, fmt.Sprintf("a register %q", s), []api.Reg{reg(s, 1, 0)}, want)
		}
	}
}

func TestP501NamesTwice(t *testing.T) {
	answers(t, "side by side", []api.Reg{reg("a", 8, 0), reg("a", 8, 0)}, api.ErrName)
	answers(t, "one between them", []api.Reg{reg("a", 8, 0), reg("b", 8, 0), reg("a", 8, 0)}, api.ErrName)
	answers(t, "one within the other", []api.Reg{reg("a", 8, 0, reg("a", 4, 0))}, api.ErrName)
	answers(t, "two within one", []api.Reg{reg("a", 8, 0, reg("b", 4, 0), reg("b", 4, 4))}, api.ErrName)
	answers(t, "of unlike roots", []api.Reg{reg("a", 8, 0, reg("b", 4, 0)), reg("c", 8, 0, reg("b", 4, 0))}, api.ErrName)
	answers(t, "an outer one and one within another", []api.Reg{reg("a", 8, 0, reg("b", 4, 0)), reg("b", 8, 0)}, api.ErrName)
	answers(t, "an outer one and one deep within another", []api.Reg{reg("a", 1, 0), chain("p", 5), reg("b", 1, 0, reg("c", 1, 0, reg("a", 1, 0)))}, api.ErrName)
	answers(t, "great and small letters", []api.Reg{reg("a", 8, 0, reg("A", 4, 0)), reg("aa", 8, 0, reg("aA", 4, 0))}, api.OK)
	far := row("p", 200, false)
	far[199].Name = "p0"
	answers(t, "the last one and the first", far, api.ErrName)
	far[199].Name = "p198"
	answers(t, "the last one and the one ahead of it", far, api.ErrName)
	long := strings.Repeat("n", 19)
	answers(t, "20 bytes, the last one unlike", []api.Reg{reg(long+"a", 8, 0), reg(long+"b", 8, 0), reg(long, 8, 0)}, api.OK)
	answers(t, "20 bytes", []api.Reg{reg(long+"a", 8, 0), reg(long+"a", 8, 0)}, api.ErrName)
}

func TestP501Widths(t *testing.T) {
	for _, w := range []int{1, 2, 8, 31, 32, 33, 63, 64} {
		answers(t, fmt.Sprint("width ", w), []api.Reg{reg("a", w, 0)}, api.OK)
		answers(t, fmt.Sprint("width ", w, " within as much"), []api.Reg{reg("a", w, 0, reg("b", w, 0))}, api.OK)
		answers(t, fmt.Sprint("width ", w, " within all"), []api.Reg{reg("a", 64, 0, reg("b", w, 0))}, api.OK)
		answers(t, fmt.Sprint("width ", w, " within one less"), []api.Reg{reg("a", max(w-1, 1), 0, reg("b", max(w, 2), 0))}, api.ErrWidth)
	}
	for _, w := range []int{0, -1, -2, -64, 65, 66, 128, 1 << 32, 1<<32 + 1, math.MinInt, math.MinInt + 1, math.MaxInt} {
		answers(t, fmt.Sprint("width ", w), []api.Reg{reg("a", w, 0)}, api.ErrWidth)
		answers(t, fmt.Sprint("width ", w, " behind one"), []api.Reg{reg("b", 1, 0), reg("a", w, 0)}, api.ErrWidth)
		for _, at := range []int{0, 1, 63, 64, -1, -w} {
			answers(t, fmt.Sprint("width ", w, " within all, at ", at), []api.Reg{reg("a", 64, 0, reg("b", w, at))}, api.ErrWidth)
		}
	}
}

func TestP501Ats(t *testing.T) {
	for _, at := range []int{1, -1, 2, 8, 63, 64, 1 << 32, math.MinInt, math.MaxInt} {
		answers(t, fmt.Sprint("an outer one at ", at), []api.Reg{reg("a", 8, at)}, api.ErrWidth)
		answers(t, fmt.Sprint("the second outer one at ", at), []api.Reg{reg("a", 8, 0), reg("b", 1, at)}, api.ErrWidth)
	}
	for _, at := range []int{-1, -2, -8, -64, 64, 65, 1 << 32, -1 << 32, math.MinInt, math.MinInt + 1, math.MaxInt - 1, math.MaxInt, math.MaxInt - 7} {
		for _, w := range []int{1, 8, 64} {
			answers(t, fmt.Sprint("width ", w, " at ", at), []api.Reg{reg("a", 64, 0, reg("b", w, at))}, api.ErrWidth)
			answers(t, fmt.Sprint("width ", w, " at ", at, " of one that lies at 8"), []api.Reg{reg("a", 64, 0, reg("c", 56, 8, reg("b", w, at)))}, api.ErrWidth)
		}
	}
}

// TestP501Ends: of all the ways in which one register may lie in another.
func TestP501Ends(t *testing.T) {
	for around := 1; around <= 64; around++ {
		for _, at := range []int{0, 1, 2, 7, 8, 31, 32, 62, 63, 64} {
			for _, w := range []int{1, 2, 8, around - at - 1, around - at, around - at + 1} {
				want := api.ErrWidth
				if w > 0 && at+w <= around {
					want = api.OK
				}
				answers(t, fmt.Sprint("width ", w, " at ", at, " of ", around), []api.Reg{reg("a", around, 0, reg("b", w, at))}, want)
			}
		}
	}
	// The end of the one around it counts, not that of the outer one; its own At, not where it lies in the outer one.
	answers(t, "just at the end of the inner one", []api.Reg{reg("a", 64, 0, reg("b", 8, 40, reg("c", 3, 5)))}, api.OK)
	answers(t, "one behind the end of the inner one", []api.Reg{reg("a", 64, 0, reg("b", 8, 40, reg("c", 3, 6)))}, api.ErrWidth)
	answers(t, "as long as where the inner one lies", []api.Reg{reg("a", 64, 0, reg("b", 8, 40, reg("c", 1, 40)))}, api.ErrWidth)
	answers(t, "just at the end of each", []api.Reg{reg("a", 64, 0, reg("b", 63, 1, reg("c", 62, 1, reg("d", 61, 1, reg("e", 60, 1, reg("f", 59, 1))))))}, api.OK)
	answers(t, "one behind the end of the last", []api.Reg{reg("a", 64, 0, reg("b", 63, 1, reg("c", 62, 1, reg("d", 61, 1, reg("e", 60, 1, reg("f", 60, 1))))))}, api.ErrWidth)
}

func TestP501Aliases(t *testing.T) {
	// pair is two registers within one, with another one between them.
	pair := func(first, second api.Reg, between ...api.Reg) []api.Reg {
		return []api.Reg{reg("a", 64, 0, append(append([]api.Reg{first}, between...), second)...)}
	}
	free := reg("c", 1, 63)
	for _, x := range []struct {
		what          string
		first, second api.Reg
		want          api.Errno
	}{
		{"they touch", reg("b", 8, 4), reg("d", 8, 12), api.OK},
		{"they lap by one bit", reg("b", 8, 4), reg("d", 8, 11), api.ErrAlias},
		{"they lap by all but one", reg("b", 8, 4), reg("d", 8, 5), api.ErrAlias},
		{"the same bits", reg("b", 8, 4), reg("d", 8, 4), api.ErrAlias},
		{"a bit between them", reg("b", 8, 4), reg("d", 8, 13), api.OK},
		{"at the first's first bit", reg("b", 8, 4), reg("d", 1, 4), api.ErrAlias},
		{"at the first's last bit", reg("b", 8, 4), reg("d", 1, 11), api.ErrAlias},
		{"amid the first", reg("b", 8, 4), reg("d", 2, 6), api.ErrAlias},
		{"around the first", reg("b", 8, 4), reg("d", 20, 0), api.ErrAlias},
	} {
		answers(t, x.what, pair(x.first, x.second), x.want)
		answers(t, x.what+", the other way round", pair(x.second, x.first), x.want)
		answers(t, x.what+", with one between", pair(x.first, x.second, free), x.want)
		answers(t, x.what+", the other way round, with one between", pair(x.second, x.first, free), x.want)
		deep := reg("p", 64, 0, reg("q", 64, 0, reg("r", 64, 0, reg("s", 64, 0, pair(x.first, x.second)[0].Subs...))))
		answers(t, x.what+", 5 deep", []api.Reg{deep}, x.want)
	}
	answers(t, "all bits, each in one", []api.Reg{reg("a", 64, 0, row("b", 64, true)...)}, api.OK)
	answers(t, "all bits, and one more", []api.Reg{reg("a", 64, 0, append(row("b", 64, true), reg("c", 1, 30))...)}, api.ErrAlias)
}

// TestP501NoAliases: those that are not within the same one may have the same place there.
func TestP501NoAliases(t *testing.T) {
	answers(t, "outer ones", []api.Reg{reg("a", 8, 0), reg("b", 8, 0), reg("c", 64, 0)}, api.OK)
	answers(t, "within two outer ones", []api.Reg{reg("a", 8, 0, reg("b", 4, 2)), reg("c", 8, 0, reg("d", 4, 2))}, api.OK)
	answers(t, "within two that touch", []api.Reg{reg("a", 16, 0, reg("b", 8, 0, reg("c", 4, 2)), reg("d", 8, 8, reg("e", 4, 2)))}, api.OK)
	answers(t, "within its own", []api.Reg{reg("a", 16, 0, reg("b", 16, 0, reg("c", 16, 0)))}, api.OK)
	answers(t, "beside one that has others", []api.Reg{reg("a", 16, 0, reg("b", 8, 8, reg("c", 8, 0)), reg("d", 8, 0, reg("e", 8, 0)))}, api.OK)
}

// TestP501FirstRegister: of two registers that are wrong the first one that is gone over is told.
func TestP501FirstRegister(t *testing.T) {
	// wrong is registers that stand in one of width 8, whose first 4 bits are taken; some are wrong by what is within them.
	wrong := []struct {
		reg api.Reg
		err api.Errno
	}{
		{reg("x1", 0, 0), api.ErrWidth},
		{reg("at", 1, 5), api.ErrName},
		{reg("x2", 1, 5, reg("x3", 1, 0, chain("deep", 4))), api.ErrDepth},
		{reg("x4", 2, 3), api.ErrAlias},
		{reg("x5", 4, 5), api.ErrWidth},
		{reg("taken", 1, 5), api.ErrName},
		{reg("x6", 1, 5, reg("x7", 1, 0, reg("9", 1, 0))), api.ErrName},
		{reg("x8", 1, 5, reg("x9", 1, 1)), api.ErrWidth},
	}
	ahead := func(l ...api.Reg) []api.Reg { return append([]api.Reg{reg("taken", 4, 0)}, l...) }
	for _, a := range wrong {
		answers(t, a.reg.Name, []api.Reg{reg("o", 8, 0, ahead(a.reg)...)}, a.err)
		for _, b := range wrong {
			what := a.reg.Name + " ahead of " + b.reg.Name
			answers(t, what, []api.Reg{reg("o", 8, 0, ahead(a.reg, b.reg)...)}, a.err)
			answers(t, what+", deep within", []api.Reg{reg("o", 8, 0, ahead(reg("i", 1, 4, reg("machine", 0, 0)), a.reg)...), b.reg}, api.ErrName)
			answers(t, what+", of another outer one", []api.Reg{reg("o", 8, 0, ahead(a.reg)...), reg("b", 1, 0, b.reg)}, a.err)
			// The one around is gone over ahead of those within it, and those ahead of the next one beside it.
			around := a.reg
			around.Subs = append(slices.Clone(a.reg.Subs), b.reg)
			answers(t, what+", around it", []api.Reg{reg("o", 8, 0, ahead(around, wrong[1].reg)...)}, a.err)
		}
	}
	answers(t, "within the first one, ahead of the second", []api.Reg{reg("a", 8, 0, reg("b", 4, 0, reg("c", 4, 0, reg("d", 5, 0))), reg("b", 0, 0)), reg("", 0, 0)}, api.ErrWidth)
	answers(t, "the second laps, the first has a wrong one within it", []api.Reg{reg("a", 8, 0, reg("b", 4, 0, reg("at", 1, 0)), reg("c", 4, 0))}, api.ErrName)
	answers(t, "the second laps, and has a wrong one within it", []api.Reg{reg("a", 8, 0, reg("b", 4, 0), reg("c", 4, 0, reg("at", 1, 0)))}, api.ErrAlias)
	answers(t, "too many behind one that laps", append([]api.Reg{reg("a", 8, 0, reg("b", 4, 0), reg("c", 4, 0))}, row("d", 300, false)...), api.ErrAlias)
}

// TestP501FirstOfOneRegister: of a register with which several things are wrong, the first in the document's order is told.
func TestP501FirstOfOneRegister(t *testing.T) {
	// Bits 1, 2, .. of a number: too deep, one too many, no name, no width, it laps.
	order := []api.Errno{api.ErrDepth, api.ErrLong, api.ErrName, api.ErrWidth, api.ErrAlias}
	for wrong := range 1 << len(order) {
		is := func(i int) bool { return wrong>>i&1 == 1 }
		want := api.OK
		for i := len(order) - 1; i >= 0; i-- {
			if is(i) {
				want = order[i]
			}
		}
		for _, width := range []int{0, 9, -1, 65} {
			for _, name := range []string{"", "op", "first", "a b"} {
				r := reg("fine", 4, 4)
				if is(2) {
					r.Name = name
				}
				if is(4) {
					r.At = 3
				}
				if is(3) {
					r.Width = width
				}
				deep, count, inner := reg("around", 8, 0, r), 2, 5
				if !is(0) { // what stands beside one that is too deep would be told ahead of it
					deep.Subs = []api.Reg{reg("ahead", 4, 0), r}
					count, inner = 3, 3
				}
				for i := range inner {
					deep = reg(fmt.Sprint("d", i), 8, 0, deep)
				}
				outers := 200 - count - inner // all together 200
				if is(1) {
					outers++
				}
				l := append([]api.Reg{reg("first", 1, 0)}, row("o", outers-1, false)...)
				answers(t, fmt.Sprintf("wrong %05b, width %d, name %q", wrong, width, name), append(l, deep), want)
			}
		}
	}
}

// model is Places, asked bit by bit.
type model struct {
	names  []string
	places []api.Place
}

// add adds the registers l, which lie in the bits of the one around them; outer ones lie in none.
func (m *model) add(l []api.Reg, deep, root, first int, around map[int]bool) api.Errno {
	used := map[int]bool{}
	for i, r := range l {
		if deep == 1 {
			root, used = i, map[int]bool{}
		}
		switch {
		case deep > 6:
			return api.ErrDepth
		case len(m.names) >= 200:
			return api.ErrLong
		case !nameForm.MatchString(r.Name) || slices.Contains(words, r.Name) || slices.Contains(m.names, r.Name):
			return api.ErrName
		case r.Width < 1 || r.Width > 64 || deep == 1 && r.At != 0:
			return api.ErrWidth
		}
		bits := map[int]bool{}
		for b := range r.Width {
			bits[first+r.At+b] = true
		}
		laps := false
		for b := range bits {
			if deep > 1 && !around[b] {
				return api.ErrWidth
			}
			laps = laps || used[b]
			used[b] = true
		}
		if laps {
			return api.ErrAlias
		}
		m.names = append(m.names, r.Name)
		m.places = append(m.places, place(root, first+r.At, r.Width))
		if err := m.add(r.Subs, deep+1, root, first+r.At, bits); err != api.OK {
			return err
		}
	}
	return api.OK
}

// steps is a row of numbers that is the same on every run.
type steps uint64

func (s *steps) next(below int) int {
	*s = *s*6364136223846793005 + 1442695040888963407
	return int(uint64(*s)>>33) % below
}

// within is registers that are taken within one of so many bits.
func (s *steps) within(bits, deep int, count *int) []api.Reg {
	var l []api.Reg
	for at := s.next(3); at < bits && deep <= 6 && len(l) < 4; {
		w := 1 + s.next(min(bits-at, 1+bits*2/3))
		*count++
		r := reg(fmt.Sprint("r", *count), w, at)
		if s.next(3) > 0 {
			r.Subs = s.within(w, deep+1, count)
		}
		l = append(l, r)
		at += w + max(0, s.next(4)-2)
	}
	for i := range l { // in no order
		k := s.next(i + 1)
		l[i], l[k] = l[k], l[i]
	}
	return l
}

// outer is registers that are taken, if they are not too many.
func (s *steps) outer() []api.Reg {
	count := 0
	l := make([]api.Reg, s.next(5))
	if s.next(10) == 0 {
		l = make([]api.Reg, 10+s.next(30))
	}
	for i := range l {
		count++
		w := 1 + s.next(64)
		l[i] = reg(fmt.Sprint("r", count), w, 0, s.within(w, 2, &count)...)
	}
	return l
}

// each is the places of the registers of l and of those within them.
func each(l []api.Reg) []*api.Reg {
	var all []*api.Reg
	for i := range l {
		all = append(append(all, &l[i]), each(l[i].Subs)...)
	}
	return all
}

// turn changes one thing of the registers, so that they are mostly no longer taken.
func (s *steps) turn(l []api.Reg) {
	all := each(l)
	if len(all) == 0 {
		return
	}
	r := all[s.next(len(all))]
	switch s.next(7) {
	case 0:
		r.Name = append(words, "", "1", "x y", strings.Repeat("x", 20), strings.Repeat("x", 21))[s.next(16)]
	case 1:
		r.Name = all[s.next(len(all))].Name
	case 2:
		r.Width += s.next(5) - 2
	case 3:
		r.At += s.next(5) - 2
	case 4:
		r.Width = []int{0, -1, 64, 65, math.MaxInt, math.MinInt}[s.next(6)]
	case 5:
		r.At = []int{0, -1, 63, 64, math.MaxInt, math.MinInt}[s.next(6)]
	case 6:
		deep := chain("deep", 1+s.next(6))
		if len(r.Subs) > 0 {
			r.Subs[s.next(len(r.Subs))] = deep
		} else {
			r.Subs = []api.Reg{deep}
		}
	}
}

func TestP501AgainstModel(t *testing.T) {
	s := steps(11)
	seen := map[api.Errno]int{}
	for i := range 12000 {
		l := s.outer()
		for range s.next(3) {
			s.turn(l)
		}
		var m model
		want := m.add(l, 1, 0, 0, nil)
		seen[want]++
		names, places, err := geom.Places(l)
		if want != api.OK {
			m = model{}
		}
		if err != want || !slices.Equal(names, m.names) || !slices.Equal(places, m.places) {
			t.Fatalf("registers %d, %+v:\n%q %v error %d, want\n%q %v error %d", i, l, names, places, err, m.names, m.places, want)
		}
	}
	for _, e := range []api.Errno{api.OK, api.ErrDepth, api.ErrLong, api.ErrName, api.ErrWidth, api.ErrAlias} {
		if seen[e] < 100 {
			t.Errorf("error %d: %d times, too few", e, seen[e])
		}
	}
}

// spare is the registers l with others in the room behind each list.
func spare(l []api.Reg) []api.Reg {
	more := make([]api.Reg, len(l), len(l)+2)
	for i, r := range l {
		r.Subs = spare(r.Subs)
		more[i] = r
	}
	more = append(more, reg("spare", -7, -7), reg("room", -8, -8))
	return more[:len(l)]
}

// text is the registers l and what stands in the room behind each list.
func text(l []api.Reg) string {
	s := fmt.Sprint(len(l), l[len(l):cap(l)])
	for _, r := range l {
		s += fmt.Sprintf("%q %d %d ", r.Name, r.Width, r.At) + text(r.Subs)
	}
	return s
}

func TestP503NothingIsChanged(t *testing.T) {
	s := steps(12)
	for i := range 1000 {
		l := spare(s.outer())
		if i%2 == 1 {
			s.turn(l)
		}
		before := text(l)
		names, places, err := geom.Places(l)
		if text(l) != before {
			t.Fatalf("registers %d are changed", i)
		}
		// What is answered is not what was handed in, nor what is answered on the next call.
		for k := range names {
			names[k], places[k] = "turned", place(-1, -1, -1)
		}
		names, places = append(names, "more"), append(places, place(-1, -1, -1))
		if text(l) != before {
			t.Fatalf("registers %d follow what was answered", i)
		}
		other, others, again := geom.Places(l)
		if again != err || len(other) != len(names)-1 || len(others) != len(places)-1 || slices.Contains(other, "turned") || slices.Contains(others, place(-1, -1, -1)) {
			t.Fatalf("registers %d have another answer", i)
		}
	}
}

func TestP503AnswersDoNotFollow(t *testing.T) {
	l := a64()
	names, places, _ := geom.Places(l)
	l[0].Name, l[0].Width, l[0].Subs[0].Subs[0].Subs[1] = "x", 63, reg("y", 1, 9)
	if want := []string{"rax", "eax", "ax", "al", "ah"}; !slices.Equal(names, want) {
		t.Errorf("the names are %q", names)
	}
	if want := []api.Place{place(0, 0, 64), place(0, 0, 32), place(0, 0, 16), place(0, 0, 8), place(0, 8, 8)}; !slices.Equal(places, want) {
		t.Errorf("the places are %v", places)
	}
	lies(t, "turned", l, "x 0 0 63", "eax 0 0 32", "ax 0 0 16", "al 0 0 8", "y 0 9 1")
}

func TestP503NamesAreNew(t *testing.T) {
	l := a64()
	names, _, _ := geom.Places(l)
	again, _, _ := geom.Places(l)
	for i, r := range each(l) {
		if names[i] != r.Name || again[i] != r.Name {
			t.Fatalf("the register %s is told as %s, %s", r.Name, names[i], again[i])
		}
		if unsafe.StringData(names[i]) == unsafe.StringData(r.Name) || unsafe.StringData(names[i]) == unsafe.StringData(again[i]) {
			t.Errorf("the name %s is not new", r.Name)
		}
	}
}

func TestP503AtOneTime(t *testing.T) {
	good, bad := a64(), []api.Reg{reg("a", 8, 0, reg("b", 5, 0), reg("c", 5, 0))}
	want, wantPlaces, _ := geom.Places(good)
	var wg sync.WaitGroup
	for range 8 {
		wg.Go(func() {
			for range 200 {
				names, places, err := geom.Places(good)
				none, no, other := geom.Places(bad)
				if !reflect.DeepEqual(names, want) || !reflect.DeepEqual(places, wantPlaces) || err != api.OK || none != nil || no != nil || other != api.ErrAlias {
					t.Error("another answer")
					return
				}
			}
		})
	}
	wg.Wait()
}
