package parser_test

import (
	"fmt"
	"reflect"
	"slices"
	"strings"
	"sync"
	"testing"
	"unsafe"

	"pigeonhole/api"
	"pigeonhole/desc"
	"pigeonhole/parser"
)

const small = `machine m {
  reg a 16 {
    reg al 8 at 0
    reg ah 8 at 8 {
      reg top 1 at 7
    }
  }
  reg b 16
  reg c 32 {
    reg cl 16 at 0
  }
  class g = a b
  class h = al ah top
  op add g = g g tie 0
  op div g:a = g:a g:b tie 1 clob b c
  op not h = h
  args a b
  result a
  saved c
  slots 20
}
`

// smallMachine is the machine of small, anew on each call.
func smallMachine() api.Machine {
	return api.Machine{
		Name: "m",
		Regs: []api.Reg{
			{Name: "a", Width: 16, Subs: []api.Reg{
				{Name: "al", Width: 8},
				{Name: "ah", Width: 8, At: 8, Subs: []api.Reg{{Name: "top", Width: 1, At: 7}}},
			}},
			{Name: "b", Width: 16},
			{Name: "c", Width: 32, Subs: []api.Reg{{Name: "cl", Width: 16}}},
		},
		Classes: []api.Class{
			{Name: "g", Regs: []string{"a", "b"}},
			{Name: "h", Regs: []string{"al", "ah", "top"}},
		},
		Ops: []api.Op{
			{Name: "add", Def: api.Oper{Class: "g"}, Uses: []api.Oper{{Class: "g"}, {Class: "g"}}},
			{Name: "div", Def: api.Oper{Class: "g", Fix: "a"}, Uses: []api.Oper{{Class: "g", Fix: "a"}, {Class: "g", Fix: "b"}}, Tie: 1, Clob: []string{"b", "c"}},
			{Name: "not", Def: api.Oper{Class: "h"}, Uses: []api.Oper{{Class: "h"}}, Tie: -1},
		},
		Args: []string{"a", "b"}, Result: "a", Saved: []string{"c"}, Slots: 20,
	}
}

// words is the words that are no names.
var words = []string{"machine", "reg", "at", "class", "op", "tie", "clob", "args", "result", "saved", "slots"}

// small's tokens, the end's last.
var smallTokens = append(strings.Fields(strings.ReplaceAll(small, ":", " : ")), "")

// same tells whether two machines are one, of whom an empty list is none.
func same(a, b api.Machine) bool {
	return fmt.Sprintf("%+v", a) == fmt.Sprintf("%+v", b)
}

// reads tells whether s is the text of want.
func reads(t *testing.T, s string, want api.Machine) {
	t.Helper()
	m, line, col, err := parser.Parse(s)
	if line != 0 || col != 0 || err != api.OK {
		t.Errorf("%.200q: error %d at line %d, column %d", s, err, line, col)
	} else if !same(m, want) {
		t.Errorf("%.200q: read as\n%+v, want\n%+v", s, m, want)
	}
}

// failsAt tells whether s has an error at that place.
func failsAt(t *testing.T, s string, line, col int, want api.Errno) {
	t.Helper()
	m, l, c, err := parser.Parse(s)
	if l != line || c != col || err != want {
		t.Errorf("%.200q: error %d at line %d, column %d, want %d at %d, %d", s, err, l, c, want, line, col)
	}
	if !reflect.DeepEqual(m, api.Machine{}) {
		t.Errorf("%.200q: beside the error stands %+v", s, m)
	}
}

// fails tells whether s, in which `^` stands ahead of the token where the error is, has that error.
func fails(t *testing.T, s string, want api.Errno) {
	t.Helper()
	ahead, rest, found := strings.Cut(s, "^")
	if !found || strings.Contains(rest, "^") {
		t.Fatalf("%.200q: no place", s)
	}
	failsAt(t, ahead+rest, 1+strings.Count(ahead, "\n"), len(ahead)-strings.LastIndex(ahead, "\n"), want)
}

// goesOn tells whether s, in which `^` stands for what is put in its stead, is read with each of good there, and fails
// at its first token with each of bad.
func goesOn(t *testing.T, s string, good []string, bad ...string) {
	t.Helper()
	for _, x := range good {
		if m, line, col, err := parser.Parse(strings.Replace(s, "^", x, 1)); err != api.OK || m.Name == "" {
			t.Errorf("%q in %.200q: error %d at line %d, column %d", x, s, err, line, col)
		}
	}
	for _, x := range bad {
		fails(t, strings.Replace(s, "^", "^"+x, 1), api.ErrSyntax)
	}
}

// lay is the text of tokens and what stands between them, with each token's place; the end's token is the last one.
func lay(tokens []string, between func() string) (string, [][2]int) {
	var places [][2]int
	var s strings.Builder
	line, start := 1, 0
	for _, x := range tokens {
		gap := between()
		s.WriteString(gap)
		if k := strings.LastIndex(gap, "\n"); k >= 0 {
			line += strings.Count(gap, "\n")
			start = s.Len() - len(gap) + k + 1
		}
		places = append(places, [2]int{line, s.Len() - start + 1})
		s.WriteString(x)
	}
	return s.String(), places
}

func blank() string { return " " }

// asModel tells whether tokens, the end's last, are read as the model reads them.
func asModel(t *testing.T, tokens []string, between func() string) (api.Machine, api.Errno) {
	t.Helper()
	s, places := lay(tokens, between)
	at, want := modelFault(tokens)
	if want != api.OK {
		failsAt(t, s, places[at][0], places[at][1], want)
		return api.Machine{}, want
	}
	m, line, col, err := parser.Parse(s)
	if line != 0 || col != 0 || err != api.OK {
		t.Errorf("%.200q: error %d at line %d, column %d", s, err, line, col)
	} else if !desc.Plain(m) {
		t.Errorf("%.200q: not plain: %+v", s, m)
	} else if got := tokensOf(desc.Print(m)); !slices.Equal(got, tokens) {
		t.Errorf("%.200q: read as %q", s, got)
	}
	return m, err
}

// tokensOf is the tokens of a text that is printed.
func tokensOf(s string) []string {
	return append(strings.Fields(strings.ReplaceAll(s, ":", " : ")), "")
}

// deepRegs is registers one within the other, so many, with what stands within the deepest one.
func deepRegs(n int, within string) string {
	s := "reg r 1 " + strings.Repeat("{ reg r 1 at 0 ", n-1)
	if within != "" {
		return s + "{ " + within + " } " + strings.Repeat("} ", n-1)
	}
	return s + strings.Repeat("} ", n-1)
}

func TestP401Ordinary(t *testing.T) {
	reads(t, small, smallMachine())
	reads(t, "machine m { slots 3 }", api.Machine{Name: "m", Slots: 3})
	reads(t, "machine m { reg a 8 slots 3 }", api.Machine{Name: "m", Regs: []api.Reg{{Name: "a", Width: 8}}, Slots: 3})
	reads(t, "machine slot{slots 0}", api.Machine{Name: "slot"})
	// How the tokens are laid out says nothing.
	reads(t, strings.Join(strings.Fields(small), " "), smallMachine())
	reads(t, strings.Join(strings.Fields(small), "\n"), smallMachine())
	reads(t, strings.ReplaceAll(small, "\n", " # } slots , \"\n\t\r"), smallMachine())
	reads(t, "# none\n\n"+strings.NewReplacer(" {", "{", "\n", " ", " = ", "=", "} ", "}", ":", "\n:\t").Replace(small)+"#", smallMachine())
}

func TestP401EachPartAlone(t *testing.T) {
	g := api.Oper{Class: "g"}
	for s, want := range map[string]api.Machine{
		"reg a 0":                {Regs: []api.Reg{{Name: "a"}}},
		"reg a 007 reg a 999999": {Regs: []api.Reg{{Name: "a", Width: 7}, {Name: "a", Width: 999999}}},
		"reg a 1 { reg b 2 at 3 reg c 4 at 0 } reg d 5": {Regs: []api.Reg{
			{Name: "a", Width: 1, Subs: []api.Reg{{Name: "b", Width: 2, At: 3}, {Name: "c", Width: 4}}}, {Name: "d", Width: 5}}},
		"reg a 1 { reg b 2 at 3 { reg c 4 at 999999 } reg d 5 at 6 }": {Regs: []api.Reg{
			{Name: "a", Width: 1, Subs: []api.Reg{{Name: "b", Width: 2, At: 3, Subs: []api.Reg{{Name: "c", Width: 4, At: 999999}}}, {Name: "d", Width: 5, At: 6}}}}},
		"class g = a":                       {Classes: []api.Class{{Name: "g", Regs: []string{"a"}}}},
		"class g = b a b class g = c":       {Classes: []api.Class{{Name: "g", Regs: []string{"b", "a", "b"}}, {Name: "g", Regs: []string{"c"}}}},
		"op o g = g":                        {Ops: []api.Op{{Name: "o", Def: g, Uses: []api.Oper{g}, Tie: -1}}},
		"op o g = g g":                      {Ops: []api.Op{{Name: "o", Def: g, Uses: []api.Oper{g, g}, Tie: -1}}},
		"op o g = g tie 0":                  {Ops: []api.Op{{Name: "o", Def: g, Uses: []api.Oper{g}}}},
		"op o g = g tie 1":                  {Ops: []api.Op{{Name: "o", Def: g, Uses: []api.Oper{g}, Tie: 1}}},
		"op o g = g g clob a":               {Ops: []api.Op{{Name: "o", Def: g, Uses: []api.Oper{g, g}, Tie: -1, Clob: []string{"a"}}}},
		"op o g = g tie 01 clob b a b":      {Ops: []api.Op{{Name: "o", Def: g, Uses: []api.Oper{g}, Tie: 1, Clob: []string{"b", "a", "b"}}}},
		"op o g:a = g op o g = h : b g":     {Ops: []api.Op{{Name: "o", Def: api.Oper{Class: "g", Fix: "a"}, Uses: []api.Oper{g}, Tie: -1}, {Name: "o", Def: g, Uses: []api.Oper{{Class: "h", Fix: "b"}, g}, Tie: -1}}},
		"op o g = g h:b":                    {Ops: []api.Op{{Name: "o", Def: g, Uses: []api.Oper{g, {Class: "h", Fix: "b"}}, Tie: -1}}},
		"args a":                            {Args: []string{"a"}},
		"args b a b":                        {Args: []string{"b", "a", "b"}},
		"result a":                          {Result: "a"},
		"saved a":                           {Saved: []string{"a"}},
		"saved b a b":                       {Saved: []string{"b", "a", "b"}},
		"args a result b saved c":           {Args: []string{"a"}, Result: "b", Saved: []string{"c"}},
		"args Args _ a9 reg_ result Result": {Args: []string{"Args", "_", "a9", "reg_"}, Result: "Result"},
	} {
		want.Name, want.Slots = "m", 999999
		reads(t, "machine m { "+s+" slots 999999 }", want)
	}
}

func TestP401WhatGoesOn(t *testing.T) {
	some := []string{"x", "7", "{", "}", "=", ":", ""}
	without := func(l ...string) []string {
		return slices.DeleteFunc(append(slices.Clone(words), some...), func(s string) bool { return slices.Contains(l, s) })
	}
	for _, x := range []struct{ ahead, good string }{
		{"", "machine"},
		{"machine", "x"},
		{"machine m", "{"},
		{"machine m {", "reg class op args result saved slots"},
		{"machine m { reg", "x"},
		{"machine m { reg r", "7"},
		{"machine m { reg r 8", "{ reg class op args result saved slots"},
		{"machine m { reg r 8 {", "reg"},
		{"machine m { reg r 8 { reg", "x"},
		{"machine m { reg r 8 { reg s", "7"},
		{"machine m { reg r 8 { reg s 4", "at"},
		{"machine m { reg r 8 { reg s 4 at", "7"},
		{"machine m { reg r 8 { reg s 4 at 0", "{ reg }"},
		{"machine m { reg r 8 { reg s 4 at 0 { reg q 1 at 0", "{ reg }"},
		{"machine m { reg r 8 { reg s 4 at 0 { reg q 1 at 0 }", "reg }"},
		{"machine m { reg r 8 { reg s 4 at 0 }", "reg class op args result saved slots"},
		{"machine m { class", "x"},
		{"machine m { class g", "="},
		{"machine m { class g =", "x"},
		{"machine m { class g = a", "x class op args result saved slots"},
		{"machine m { class g = a b", "x class op args result saved slots"},
		{"machine m { op", "x"},
		{"machine m { op o", "x"},
		{"machine m { op o g", ": ="},
		{"machine m { op o g :", "x"},
		{"machine m { op o g : a", "="},
		{"machine m { op o g =", "x"},
		{"machine m { op o g = g", ": x tie clob op args result saved slots"},
		{"machine m { op o g = g :", "x"},
		{"machine m { op o g = g : a", "x tie clob op args result saved slots"},
		{"machine m { op o g = g g", ": tie clob op args result saved slots"},
		{"machine m { op o g = g g : a", "tie clob op args result saved slots"},
		{"machine m { op o g = g tie 0", "clob op args result saved slots"},
		{"machine m { op o g = g clob", "x"},
		{"machine m { op o g = g clob a", "x op args result saved slots"},
		{"machine m { op o g = g tie 1 clob a", "x op args result saved slots"},
		{"machine m { args", "x"},
		{"machine m { args a", "x result saved slots"},
		{"machine m { result", "x"},
		{"machine m { result a", "saved slots"},
		{"machine m { saved", "x"},
		{"machine m { saved a", "x slots"},
		{"machine m { args a saved b", "x slots"},
		{"machine m { slots", "7"},
		{"machine m { slots 3", "}"},
		{"machine m { slots 3 }", ""},
	} {
		good := strings.Fields(x.good)
		for _, c := range good {
			if x.ahead == "machine m { slots 3" {
				break // what it has then is all
			}
			// Behind a token that goes on, the error is not there but at what ends the text too early.
			fails(t, x.ahead+" "+c+" ^", api.ErrSyntax)
		}
		if x.good == "" {
			good = []string{""}
		}
		for _, c := range without(good...) {
			fails(t, x.ahead+" ^"+c, api.ErrSyntax)
		}
	}
	// A tie's number may be one of two.
	for _, c := range without("7") {
		fails(t, "machine m { op o g = g tie ^"+c, api.ErrSyntax)
	}
}

func TestP401WordsAreNoNames(t *testing.T) {
	for _, s := range []string{
		"machine ^ { slots 1 }",
		"machine m { reg ^ 8 slots 1 }",
		"machine m { reg a 8 { reg ^ 4 at 0 } slots 1 }",
		"machine m { class ^ = a slots 1 }",
		"machine m { class g = ^ slots 1 }",
		"machine m { op ^ g = g slots 1 }",
		"machine m { op o ^ = g slots 1 }",
		"machine m { op o g:^ = g slots 1 }",
		"machine m { op o g = ^ slots 1 }",
		"machine m { op o g = g:^ slots 1 }",
		"machine m { op o g = g g:^ slots 1 }",
		"machine m { op o g = g clob ^ slots 1 }",
		"machine m { args ^ slots 1 }",
		"machine m { result ^ slots 1 }",
		"machine m { saved ^ slots 1 }",
	} {
		goesOn(t, s, []string{"x", "Machine", "REG", "at1", "_class", "o", "ti", "clobs", "arg", "res", "save", "slot", strings.Repeat("n", 20)}, append(words, "7", "{", "}", "=", ":")...)
	}
}

func TestP401Lists(t *testing.T) {
	for what, x := range map[string]struct{ ahead, element, behind string }{
		"registers":                   {"", "reg r 1 ", ""},
		"registers with some in them": {"", "reg r 1 { reg s 1 at 0 reg s 1 at 0 } ", ""},
		"registers within one":        {"reg a 1 { ", "reg r 1 at 0 ", "} "},
		"registers of the last depth": {"reg a 1 { reg b 1 at 0 { reg c 1 at 0 { reg d 1 at 0 { reg e 1 at 0 { ", "reg r 1 at 0 ", "} } } } } "},
		"registers behind a long one": {"reg a 1 { " + strings.Repeat("reg r 1 at 0 ", 200) + "} reg b 1 { ", "reg r 1 at 0 ", "} "},
		"classes":                     {"reg a 1 ", "class g = a ", ""},
		"a class's registers":         {"class g = ", "a ", "class h = b "},
		"operations":                  {"class g = a ", "op o g = g ", ""},
		"great operations":            {"", "op o g:a = g:a g tie 1 clob b c ", "saved a "},
		"destroyed registers":         {"op o g = g clob ", "a ", "op o g = g "},
		"arguments":                   {"args ", "a ", "result a "},
		"saved registers":             {"result a saved ", "a ", ""},
	} {
		for _, n := range []int{1, 2, 199, 200, 201, 202, 500} {
			ahead := "machine m {\n" + x.ahead
			if n <= 200 {
				m, line, col, err := parser.Parse(ahead + strings.Repeat(x.element, n) + x.behind + "slots 1 }")
				if err != api.OK || m.Slots != 1 {
					t.Errorf("%d %s: error %d at line %d, column %d", n, what, err, line, col)
				}
				continue
			}
			fails(t, ahead+strings.Repeat(x.element, 200)+"^"+strings.Repeat(x.element, n-200)+x.behind+"slots 1 }", api.ErrLong)
			// What is wrong with the element that is too many comes behind that.
			first, _, _ := strings.Cut(x.element, " ")
			fails(t, ahead+strings.Repeat(x.element, 200)+"^"+first+" }", api.ErrLong)
			// What is wrong ahead of it comes ahead of it.
			fails(t, ahead+strings.Repeat(x.element, 199)+"^= "+strings.Repeat(x.element, 2), api.ErrSyntax)
		}
	}
	// What can be no element is none too many.
	fails(t, "machine m { args"+strings.Repeat(" a", 200)+" ^args", api.ErrSyntax)
	fails(t, "machine m { args"+strings.Repeat(" a", 200)+" ^7", api.ErrSyntax)
	fails(t, "machine m { "+strings.Repeat("reg r 1 ", 200)+"^r", api.ErrSyntax)
	fails(t, "machine m { "+strings.Repeat("class g = a ", 200)+"^reg", api.ErrSyntax)
}

func TestP401HowDeep(t *testing.T) {
	for deep := 1; deep <= 9; deep++ {
		for _, x := range []struct{ ahead, behind string }{
			{"", ""},
			{"reg q 1 { reg p 1 at 0 } ", "reg q 1 "},
			{deepRegs(6, ""), deepRegs(6, "")},
			{strings.Repeat("reg q 1 ", 199), ""}, // the last that is let through
		} {
			s := "machine m { " + x.ahead + deepRegs(deep, "") + x.behind + "slots 1 }"
			if deep > 6 {
				ahead := "machine m { " + x.ahead + "reg r 1 { " + strings.Repeat("reg r 1 at 0 { ", 5)
				fails(t, ahead+"^"+strings.TrimPrefix(s, ahead), api.ErrDepth)
				continue
			}
			m, line, col, err := parser.Parse(s)
			if err != api.OK || desc.Depth(m.Regs) != max(deep, desc.Depth(m.Regs[:1])) {
				t.Errorf("%d deep: error %d at line %d, column %d", deep, err, line, col)
			}
		}
	}
	// The depth is told ahead of all that is wrong behind the word, and of nothing else.
	six := "machine m { reg r 1 { " + strings.Repeat("reg r 1 at 0 { ", 5)
	for _, s := range []string{"reg r 1 at 0 } } } } } } slots 1 }", "reg", "reg reg", "reg r 1 { }", strings.Repeat("reg r 1 at 0 ", 300)} {
		fails(t, six+"^"+s, api.ErrDepth)
	}
	for _, s := range []string{"", "}", "r", "{", "7", "op", "slots 1 }"} {
		fails(t, six+"^"+s, api.ErrSyntax)
	}
	// Behind the registers that are deep, those of each list may be as many as of any other.
	for deep := 1; deep <= 6; deep++ {
		at := " at 0 "
		if deep == 1 {
			at = " "
		}
		ahead := "machine m { " + strings.TrimSuffix(deepRegs(deep, "")+"x", strings.Repeat("} ", deep-1)+"x")
		reg := "reg s 2" + at
		last := ahead + strings.Repeat(reg, 198)
		if m, _, _, err := parser.Parse(last + reg + strings.Repeat("} ", deep-1) + "slots 1 }"); err != api.OK || desc.Depth(m.Regs) != deep {
			t.Errorf("200 registers that are %d deep: error %d", deep, err)
		}
		fails(t, last+reg+"^"+reg, api.ErrLong)
		if deep < 6 {
			fails(t, last+reg+"{ reg s 2 at 0 } ^"+reg+"{ reg s 2 at 0 }", api.ErrLong)
			continue
		}
		fails(t, last+reg+"{ ^reg s 2 at 0 } "+reg, api.ErrDepth)  // within the last that is let through
		fails(t, last+reg+"^"+reg+"{ reg s 2 at 0 }", api.ErrLong) // within the first that is too many
	}
}

func TestP401Tie(t *testing.T) {
	for _, uses := range []string{"g", "g g", "g:a", "g g:a", "g:a g:b"} {
		for _, behind := range []string{"", " clob a", " op p g = g tie 1"} {
			ahead := "machine m { op o g = " + uses + " tie "
			for n, texts := range [][]string{{"0", "00", "000000"}, {"1", "01", "000001"}} {
				for _, s := range texts {
					m, line, col, err := parser.Parse(ahead + s + behind + " slots 1 }")
					if err != api.OK || m.Ops[0].Tie != n {
						t.Errorf("%s: tie %s: error %d at line %d, column %d", uses, s, err, line, col)
					}
				}
			}
			for _, s := range []string{"2", "3", "02", "10", "11", "000002", "100000", "999999"} {
				fails(t, ahead+"^"+s+behind+" slots 1 }", api.ErrArg)
				fails(t, ahead+"^"+s, api.ErrArg)
			}
		}
		m, _, _, err := parser.Parse("machine m { op o g = " + uses + " clob a op p g = " + uses + " slots 1 }")
		if err != api.OK || m.Ops[0].Tie != -1 || m.Ops[1].Tie != -1 {
			t.Errorf("%s: no tie: error %d, %+v", uses, err, m.Ops)
		}
	}
	// The number is looked at where it stands: not ahead of what is wrong ahead of it, nor behind what is behind it.
	fails(t, "machine m { op o g = g tie ^2 tie", api.ErrArg)
	fails(t, "machine m { op o g = ^tie 2 slots 1 }", api.ErrSyntax)
	fails(t, "machine m { op o g = g clob a ^tie 2 slots 1 }", api.ErrSyntax)
	fails(t, "machine m { op o g = g ^2 slots 1 }", api.ErrSyntax)
	fails(t, "machine m { op o g = g tie 0 ^tie 2 slots 1 }", api.ErrSyntax)
	fails(t, "machine m { op o g = g tie 0 ^2 slots 1 }", api.ErrSyntax)
}

func TestP401At(t *testing.T) {
	fails(t, "machine m { reg a 8 ^at 0 slots 1 }", api.ErrSyntax)
	fails(t, "machine m { reg a 8 ^at 0 { reg b 8 at 0 } slots 1 }", api.ErrSyntax)
	fails(t, "machine m { reg a 8 { reg b 8 at 0 } reg c 8 ^at 0 slots 1 }", api.ErrSyntax)
	fails(t, "machine m { reg a 8 { reg b 8 at 0 } ^at 0 slots 1 }", api.ErrSyntax)
	fails(t, "machine m { reg ^at 0 slots 1 }", api.ErrSyntax)
	// Within another one it must have it, however deep.
	for deep := 1; deep <= 5; deep++ {
		ahead := "machine m { reg r 1 { " + strings.Repeat("reg r 1 at 0 { ", deep-1)
		for _, s := range []string{"^}", "^reg q 1 at 0 } slots 1 }", "^{ reg q 1 at 0 } } slots 1 }", "^7", "^", "^q", "^slots 1"} {
			fails(t, ahead+"reg p 2 "+s, api.ErrSyntax)
			fails(t, ahead+"reg o 3 at 4 reg p 2 "+s, api.ErrSyntax)
		}
		fails(t, ahead+"reg p 2 at 0 ^at 0", api.ErrSyntax)
		fails(t, ahead+"reg p ^at 0 2", api.ErrSyntax)
	}
}

func TestP401Braces(t *testing.T) {
	for deep := 1; deep <= 5; deep++ {
		fails(t, "machine m { reg r 1 { "+strings.Repeat("reg r 1 at 0 { ", deep-1)+"^} slots 1 }", api.ErrSyntax)
		fails(t, "machine m { reg r 1 { reg p 1 at 0 "+strings.Repeat("reg r 1 at 0 { ", deep-1)+strings.Repeat("reg q 1 at 0 } ", deep)+"^} slots 1 }", api.ErrSyntax)
	}
	fails(t, "machine m { ^}", api.ErrSyntax)
	fails(t, "machine m { ^{ } slots 1 }", api.ErrSyntax)
	fails(t, "machine m { reg r 1 { reg s 1 at 0 } ^{ reg s 1 at 0 } slots 1 }", api.ErrSyntax)
	fails(t, "machine m { reg r 1 { reg s 1 at 0 ^slots 1 } }", api.ErrSyntax)
	fails(t, "machine m { reg r 1 { ^class g = r } slots 1 }", api.ErrSyntax)
	fails(t, "machine m ^slots 1 }", api.ErrSyntax)
	fails(t, "machine m { slots 1 ^{ }", api.ErrSyntax)
}

func TestP401Order(t *testing.T) {
	parts := []string{"reg a 8 { reg b 4 at 0 } ", "class g = a ", "op o g = g ", "args a ", "result a ", "saved a ", "slots 1 "}
	for i, first := range parts {
		for k, second := range parts {
			switch s := "machine m { " + first; {
			case i == 6:
				fails(t, s+"^"+second+"}", api.ErrSyntax)
			case k == 6:
				goesOn(t, s+second+"^", []string{"}"}, "=")
			case i < k, i == k && i < 3: // of registers, classes and operations there may be several
				goesOn(t, s+second+"^", []string{"slots 1 }"}, "=")
			default:
				fails(t, s+"^"+second+"slots 1 }", api.ErrSyntax)
			}
		}
	}
	// Any of the parts may be left out, but not the last.
	for set := range 1 << 7 {
		s := "machine m { "
		for i, part := range parts {
			if set>>i&1 == 1 {
				s += part
			}
		}
		if set>>6 == 0 {
			fails(t, s+"^}", api.ErrSyntax)
		} else if m, _, _, err := parser.Parse(s + "}"); err != api.OK || len(m.Regs)+len(m.Classes)*2+len(m.Ops)*4+len(m.Args)*8+len(m.Result)*16+len(m.Saved)*32+m.Slots*64 != set {
			t.Errorf("%s}: error %d, %+v", s, err, m)
		}
	}
}

func TestP401BehindTheLastBrace(t *testing.T) {
	for _, s := range []string{"machine m { slots 1 }", small} {
		goesOn(t, s+" ^", []string{"", "\n", " \t\r\n", "#", "# }", "\n\n# machine m { slots 1 }\n\n"}, append(words, "x", "7", "{", "}", "=", ":", "machine m { slots 1 }", "} }")...)
		goesOn(t, s+"\n# none\n\n\t^", nil, "x # x", "}", "0")
	}
}

func TestP401EarlyEnd(t *testing.T) {
	last := len(smallTokens) - 1
	for n := range last {
		for _, gap := range []string{" ", "\n", " # none\n  "} {
			between := func() string { return gap }
			tokens := append(slices.Clone(smallTokens[:n]), "")
			s, places := lay(tokens, between)
			failsAt(t, s, places[n][0], places[n][1], api.ErrSyntax)
		}
	}
	fails(t, "^", api.ErrSyntax)
	fails(t, "\n \n# none\n ^", api.ErrSyntax)
	fails(t, "#^", api.ErrSyntax)
}

func TestP401LexerErrors(t *testing.T) {
	long := strings.Repeat("n", 21)
	for _, x := range []struct {
		bad string
		err api.Errno
	}{{"^,", api.ErrSyntax}, {"^\x00", api.ErrSyntax}, {"^é", api.ErrSyntax}, {"^-1", api.ErrSyntax}, {"^\"a\"", api.ErrSyntax}, {"1^a", api.ErrSyntax}, {"^1234567", api.ErrLong}, {"^" + long, api.ErrLong}, {"1234567^a", api.ErrSyntax}} {
		// It is told ahead of what is wrong in the tokens, also of what stands ahead of it or is none too many.
		for _, ahead := range []string{"", " ", "\n", "machine m { ", "machine m {\n slots ", "machine m { slots 3 } ", "machine machine ", "} ", "machine m { op o g = g tie 2 ",
			"machine m { reg r 1 { " + strings.Repeat("reg r 1 at 0 { ", 7), "machine m { args " + strings.Repeat("a ", 201), "machine m { reg a 8\n{ }\n\n\t"} {
			fails(t, ahead+x.bad, x.err)
			fails(t, ahead+x.bad+" , slots 3 }", x.err)
			fails(t, ahead+x.bad+"\n12345678", x.err)
		}
		fails(t, small+"\n"+x.bad, x.err)
	}
	// A text that is too long.
	fails(t, "^"+strings.Repeat(" ", api.MaxText+1), api.ErrLong)
	fails(t, "^"+small+strings.Repeat(" ", api.MaxText+1-len(small)), api.ErrLong)
	fails(t, "^"+strings.Repeat(",", api.MaxText+1), api.ErrLong)
	reads(t, small+strings.Repeat(" ", api.MaxText-len(small)), smallMachine())
	reads(t, strings.Repeat("\n", api.MaxText-len(small))+small, smallMachine())
	fails(t, strings.Repeat(" ", api.MaxText)+"^", api.ErrSyntax)
}

// tokens is one of each kind that a token can be of.
var tokens = append(slices.Clone(words), "x", "q9", "0", "1", "2", "999999", "{", "}", "=", ":")

// TestP401OneTokenOff: small with one token left out, put in, put in the stead of another, or standing elsewhere.
func TestP401OneTokenOff(t *testing.T) {
	ends := map[api.Errno]int{}
	ask := func(l []string) {
		_, err := asModel(t, l, blank)
		ends[err]++
	}
	for i := range smallTokens[:len(smallTokens)-1] {
		ask(slices.Delete(slices.Clone(smallTokens), i, i+1))
		if i > 0 {
			l := slices.Clone(smallTokens)
			l[i], l[i-1] = l[i-1], l[i]
			ask(l)
		}
		for _, x := range tokens {
			l := slices.Clone(smallTokens)
			l[i] = x
			ask(l)
			ask(slices.Insert(slices.Clone(smallTokens), i, x))
		}
	}
	if ends[api.OK] < 200 || ends[api.ErrSyntax] < 3000 || ends[api.ErrArg] < 4 {
		t.Errorf("too few of one kind: %v", ends)
	}
}

// TestP401ShortRows: all short rows of tokens behind some that go on, up to the first that does not.
func TestP401ShortRows(t *testing.T) {
	count := 0
	var walk func(l []string, left int)
	walk = func(l []string, left int) {
		for _, x := range append(slices.Clone(tokens), "") {
			k := append(slices.Clone(l), x)
			count++
			at, err := modelFault(k)
			goesOn := err == api.OK && x != ""
			if goesOn && left > 1 {
				walk(k, left-1)
				continue
			}
			if goesOn {
				k = append(k, "") // it must fail at the end, if it does not end there
			} else if err != api.OK && at != len(k)-1 {
				t.Fatalf("%q: fails too early", k)
			}
			asModel(t, k, blank)
		}
	}
	for _, s := range []string{"", "machine m {", "machine m { reg r 1", "machine m { reg r 1 {", "machine m { reg r 1 { reg s 1 at 0", "machine m { class g =", "machine m { op o g",
		"machine m { op o g = g", "machine m { op o g = g g", "machine m { op o g = g clob a", "machine m { args a", "machine m { slots",
		"machine m { reg r 1 { " + strings.Repeat("reg r 1 at 0 { ", 4), "machine m { reg r 1 { " + strings.Repeat("reg r 1 at 0 { ", 4) + "reg r 1 at 0"} {
		walk(strings.Fields(s), 4)
	}
	if count < 10000 {
		t.Errorf("%d rows: too few", count)
	}
}

// steps is a row of numbers that is the same on every run.
type steps uint64

func (s *steps) next(below int) int {
	*s = *s*6364136223846793005 + 1442695040888963407
	return int(uint64(*s)>>33) % below
}

func (s *steps) name() string {
	return string([]byte{"abcXYZ_"[s.next(7)]}) + strings.Repeat("k", s.next(3)) + fmt.Sprint(s.next(12))
}

// list is a list of names; now and then it is as long as a list may be.
func (s *steps) list(least int) []string {
	n := least + s.next(4)
	if s.next(60) == 0 {
		n = api.MaxRegs
	}
	var l []string
	for range n {
		l = append(l, s.name())
	}
	return l
}

func (s *steps) nameOrNone() string {
	if s.next(2) == 0 {
		return ""
	}
	return s.name()
}

func (s *steps) regs(n, deep int) []api.Reg {
	var l []api.Reg
	for range s.next(n) {
		r := api.Reg{Name: s.name(), Width: s.next(1000)}
		if deep > 1 {
			r.At = s.next(1000000)
		}
		if deep < 6 && s.next(2) == 0 {
			r.Subs = s.regs(4, deep+1)
		}
		l = append(l, r)
	}
	return l
}

// machine is a plain machine.
func (s *steps) machine() api.Machine {
	m := api.Machine{Name: s.name(), Regs: s.regs(6, 1), Args: s.list(0), Result: s.nameOrNone(), Saved: s.list(0), Slots: s.next(1000000)}
	for range s.next(4) {
		m.Classes = append(m.Classes, api.Class{Name: s.name(), Regs: s.list(1)})
	}
	for range s.next(4) {
		o := api.Op{Name: s.name(), Def: api.Oper{Class: s.name(), Fix: s.nameOrNone()}, Tie: s.next(3) - 1, Clob: s.list(0)}
		for range 1 + s.next(2) {
			o.Uses = append(o.Uses, api.Oper{Class: s.name(), Fix: s.nameOrNone()})
		}
		m.Ops = append(m.Ops, o)
	}
	return m
}

// between is what may stand between two tokens.
func (s *steps) between() string {
	return []string{" ", "\n", "\t", " \r ", "\n\n", " # none\n", "#}\n\t", "   "}[s.next(8)]
}

// turn changes tokens at one place, the end's not.
func (s *steps) turn(l []string) []string {
	l = slices.Clone(l)
	at := s.next(len(l) - 1)
	switch s.next(7) {
	case 0:
		return slices.Delete(l, at, at+1)
	case 1:
		return slices.Insert(l, at, tokens[s.next(len(tokens))])
	case 2:
		l[at] = tokens[s.next(len(tokens))]
	case 3: // what stands there once more
		return slices.Insert(l, at, l[at:min(at+1+s.next(6), len(l)-1)]...)
	case 4:
		return slices.Insert(l, at, slices.Repeat(l[at:at+1], 199+s.next(3))...)
	case 5: // where the first register stands
		return slices.Insert(l, min(3, len(l)-1), strings.Fields(deepRegs(1+s.next(8), ""))...)
	case 6:
		if k := slices.Index(l, "tie"); k >= 0 {
			l[k+1] = tokens[s.next(len(tokens))]
		}
	}
	return l
}

func TestP401AgainstModel(t *testing.T) {
	s := steps(11)
	ends := map[api.Errno]int{}
	for range 12000 {
		l := tokensOf(desc.Print(s.machine()))
		for range s.next(3) {
			l = s.turn(l)
		}
		_, err := asModel(t, l, s.between)
		ends[err]++
		if t.Failed() {
			return
		}
	}
	for err, least := range map[api.Errno]int{api.OK: 4000, api.ErrSyntax: 4000, api.ErrLong: 50, api.ErrDepth: 50, api.ErrArg: 50} {
		if ends[err] < least {
			t.Errorf("%d texts end with %d: too few", ends[err], err)
		}
	}
}

func TestP402PrintedIsRead(t *testing.T) {
	s := steps(12)
	for range 4000 {
		m := s.machine()
		text := desc.Print(m)
		reads(t, text, m)
		if t.Failed() {
			return
		}
		// It is read as it is laid out otherwise, too.
		again, _ := lay(tokensOf(text), s.between)
		reads(t, again, m)
	}
	reads(t, desc.Print(smallMachine()), smallMachine())
	empty := api.Machine{Name: "m", Regs: []api.Reg{{Name: "a", Subs: []api.Reg{}}}, Classes: []api.Class{}, Ops: []api.Op{}, Args: []string{}, Saved: []string{}}
	reads(t, desc.Print(empty), empty)
}

func many[T any](n int, x T) []T { return slices.Repeat([]T{x}, n) }

func TestP402GreatMachines(t *testing.T) {
	g := api.Oper{Class: "g"}
	deep := api.Reg{Name: "r", At: 1}
	for range 4 {
		deep = api.Reg{Name: "r", At: 1, Subs: []api.Reg{deep, deep}}
	}
	for what, m := range map[string]api.Machine{
		"registers":     {Regs: many(200, api.Reg{Name: "r"})},
		"within others": {Regs: []api.Reg{{Name: "q", Subs: many(200, api.Reg{Name: "r", At: 999999})}, {Name: "q"}}},
		"deep ones":     {Regs: many(8, api.Reg{Name: "r", Subs: []api.Reg{deep, deep}})},
		"classes":       {Classes: many(200, api.Class{Name: "g", Regs: []string{"a"}})},
		"class":         {Classes: []api.Class{{Name: "g", Regs: many(200, strings.Repeat("n", 20))}}},
		"operations":    {Ops: many(200, api.Op{Name: "o", Def: g, Uses: []api.Oper{g, g}, Tie: 1})},
		"destroyed":     {Ops: []api.Op{{Name: "o", Def: g, Uses: []api.Oper{g}, Tie: -1, Clob: many(200, "a")}}},
		"args":          {Args: many(200, "a")},
		"saved":         {Saved: many(200, "a")},
	} {
		m.Name, m.Slots = strings.Repeat("m", 20), 999999
		text := desc.Print(m)
		if text == "" || len(text) > api.MaxText {
			t.Errorf("%s: a text of %d bytes", what, len(text))
		}
		reads(t, text, m)
	}
	// One whose text is longer than a text may be is plain, but its text has the lexer's error.
	m := api.Machine{Name: "m", Classes: many(200, api.Class{Name: "g", Regs: many(200, "a")})}
	if text := desc.Print(m); len(text) <= api.MaxText {
		t.Errorf("a text of %d bytes", len(text))
	} else {
		failsAt(t, text, 1, 1, api.ErrLong)
	}
}

func TestP402SameAnswers(t *testing.T) {
	texts := []string{small, "", "machine m { slots 3 }", "machine m {\n slots 3 } }", "a ,", "machine m { op o g = g tie 2", strings.Repeat(" ", api.MaxText+1), "machine m { reg a 8 {\n}"}
	for range 3 {
		for i, s := range texts {
			m, line, col, err := parser.Parse(s)
			parser.Parse(texts[(i+1)%len(texts)])
			m2, line2, col2, err2 := parser.Parse(strings.Clone(s))
			if !reflect.DeepEqual(m, m2) || line != line2 || col != col2 || err != err2 {
				t.Errorf("%.40q is told in two ways", s)
			}
		}
	}
}

// lists goes over all lists of m, each with the room behind it, as memory from a byte up to another.
func lists(m api.Machine) [][2]uintptr {
	var all [][2]uintptr
	add := func(p unsafe.Pointer, n int, size uintptr) {
		if n > 0 {
			all = append(all, [2]uintptr{uintptr(p), uintptr(p) + uintptr(n)*size})
		}
	}
	names := func(l []string) { add(unsafe.Pointer(unsafe.SliceData(l)), cap(l), unsafe.Sizeof("")) }
	var regs func(l []api.Reg)
	regs = func(l []api.Reg) {
		add(unsafe.Pointer(unsafe.SliceData(l)), cap(l), unsafe.Sizeof(api.Reg{}))
		for _, r := range l {
			regs(r.Subs)
		}
	}
	regs(m.Regs)
	add(unsafe.Pointer(unsafe.SliceData(m.Classes)), cap(m.Classes), unsafe.Sizeof(api.Class{}))
	add(unsafe.Pointer(unsafe.SliceData(m.Ops)), cap(m.Ops), unsafe.Sizeof(api.Op{}))
	names(m.Args)
	names(m.Saved)
	for _, c := range m.Classes {
		names(c.Regs)
	}
	for _, o := range m.Ops {
		names(o.Clob)
		add(unsafe.Pointer(unsafe.SliceData(o.Uses)), cap(o.Uses), unsafe.Sizeof(api.Oper{}))
	}
	return all
}

func TestP402AnswersAreNew(t *testing.T) {
	a, _, _, _ := parser.Parse(small)
	b, _, _, _ := parser.Parse(small)
	all := append(lists(a), lists(b)...)
	if len(all) != 2*14 {
		t.Fatalf("%d lists", len(all))
	}
	slices.SortFunc(all, func(x, y [2]uintptr) int { return int(int64(x[0]) - int64(y[0])) })
	for i := 1; i < len(all); i++ {
		if all[i][0] < all[i-1][1] {
			t.Error("two lists share memory")
		}
	}
	a.Regs[0].Subs[1].Subs[0].Name, a.Classes[0].Regs[0], a.Ops[1].Clob[0], a.Ops[0].Uses[0].Class = "v", "w", "x", "y"
	if !same(b, smallMachine()) {
		t.Error("an answer follows another one")
	}
	reads(t, small, smallMachine())
}

func TestP402TextsAreNotKept(t *testing.T) {
	s := strings.Clone(small)
	from := uintptr(unsafe.Pointer(unsafe.StringData(s)))
	m, _, _, _ := parser.Parse(s)
	for _, x := range []string{m.Regs[0].Subs[0].Name, m.Regs[0].Subs[1].Subs[0].Name, m.Classes[1].Regs[0], m.Classes[1].Regs[2], m.Ops[0].Name, m.Ops[1].Name} {
		if p := uintptr(unsafe.Pointer(unsafe.StringData(x))); from <= p && p < from+uintptr(len(s)) {
			t.Errorf("%q holds the text that was handed in", x)
		}
	}
	if s != small {
		t.Error("the text is changed")
	}
}

func TestP402AtOneTime(t *testing.T) {
	texts := []string{small, "machine m { slots 3 }", "machine m { op o g = g tie 2", "a ,", "machine m { reg a 8 {\n}"}
	var want []string
	tell := func(s string) string {
		m, line, col, err := parser.Parse(s)
		return fmt.Sprintf("%+v %d %d %d", m, line, col, err)
	}
	for _, s := range texts {
		want = append(want, tell(s))
	}
	var wg sync.WaitGroup
	for i := range 8 {
		wg.Go(func() {
			for n := range 100 {
				if k := (n + i) % len(texts); tell(texts[k]) != want[k] {
					t.Error("another answer")
					return
				}
			}
		})
	}
	wg.Wait()
}
