package lines_test

import (
	"math"
	"reflect"
	"slices"
	"strings"
	"testing"

	"pigeonhole/api"
	"pigeonhole/lines"
)

// tongue has a form of each sort; its registers are r0 to r9, of which r7 has what a call answers.
func tongue() lines.Tongue {
	return lines.Tongue{
		Forms: []lines.Form{
			lines.FormOf(api.KConst, "D = const N"),
			lines.FormOf(api.KOp, "D = OP").WithArgs(1, 2),
			lines.FormOf(api.KStore, "store A B"),
			lines.FormOf(api.KCall, "call NAME").WithArgs(0, lines.Any),
			lines.FormOf(api.KCall, "RESULT = call NAME").WithArgs(0, lines.Any),
			lines.FormOf(api.KBr, "br A T F"),
			lines.FormOf(api.KRet, "ret"),
			lines.FormOf(api.KSpill, "spill COUNT A"),
		},
		Register: func(word string) (int, bool) {
			n := slices.Index(strings.Fields("r0 r1 r2 r3 r4 r5 r6 r7 r8 r9"), word)
			return n, n >= 0
		},
		Word:   func(r int) string { return "r" + lines.Numeral(r) },
		Result: 7,
	}
}

func TestTongue(t *testing.T) {
	y := tongue()
	for line, x := range map[string]api.Ins{
		"r1 = const -100000": {Kind: api.KConst, D: 1, N: -100000},
		"r1 = add r2":        {Kind: api.KOp, D: 1, Name: "add", Args: []int{2}},
		"r1 = OP r2 r3":      {Kind: api.KOp, D: 1, Name: "OP", Args: []int{2, 3}},
		"r1 = store r0":      {Kind: api.KOp, D: 1, Name: "store", Args: []int{0}},
		"store r8 r9":        {Kind: api.KStore, A: 8, B: 9},
		"call const":         {Kind: api.KCall, D: -1, Name: "const"},
		"call f r1 r1 r1":    {Kind: api.KCall, D: -1, Name: "f", Args: []int{1, 1, 1}},
		"r7 = call f r1":     {Kind: api.KCall, Name: "f", Args: []int{1}},
		"br r1 0 99999":      {Kind: api.KBr, A: 1, F: 99999},
		"ret":                {Kind: api.KRet},
		"spill 5 r1":         {Kind: api.KSpill, N: 5, A: 1},
	} {
		words := strings.Split(line, " ")
		if got := y.Words(x); !slices.Equal(got, words) {
			t.Errorf("%q: written as %q", line, got)
		}
		if got, err := y.Read(words); err != api.OK || !reflect.DeepEqual(got, x) {
			t.Errorf("%q: read as %v, error %d", line, got, err)
		}
	}
	for _, line := range []string{"", "r1", "r1 = const", "r1 = const r2", "r1 = call r2", "r1 = add", "r1 = add r1 r2 r3", "r1 = a-b r1", "rx = const 1", "r6 = call f", "call f x", "br r1 0 -1", "br r1 100000 0", "spill -1 r1", "spill r1 1", "ret r1", "copy", "=", "D = const 1"} {
		if _, err := y.Read(strings.Split(line, " ")); err != api.ErrSyntax {
			t.Errorf("%q: error %d", line, err)
		}
	}
	if _, err := y.Read(strings.Fields("call f" + strings.Repeat(" r1", 17))); err != api.ErrLong {
		t.Errorf("a call of 17: error %d", err)
	}
	for _, kind := range []int{0, -1, api.KLoad, 12} {
		if l := y.Words(api.Ins{Kind: kind}); len(l) > 0 {
			t.Errorf("kind %d: %q", kind, l)
		}
	}
	// A form without Args writes none.
	if l := y.Words(api.Ins{Kind: api.KRet, Args: []int{1}}); !slices.Equal(l, []string{"ret"}) {
		t.Errorf("a ret of an Arg: %q", l)
	}
}

func TestLayout(t *testing.T) {
	var name string
	var numbers []int
	l := lines.Layout{
		Heads:  []lines.Head{lines.One("name", lines.Name, &name), lines.Many("numbers", lines.Number, 2, &numbers)},
		Tongue: tongue(), Blocks: 2, Ins: 3,
	}
	const head = "name n\nnumbers 3 4\n"
	b, line, err := l.Read(head + "block\n  ret\n  r1 = const 5\nblock\nend\n")
	want := [][]api.Ins{{{Kind: api.KRet}, {Kind: api.KConst, D: 1, N: 5}}, nil}
	if line != 0 || err != api.OK || !reflect.DeepEqual(b, want) || name != "n" || !slices.Equal(numbers, []int{3, 4}) {
		t.Errorf("%v at line %d, error %d, %q, %v", b, line, err, name, numbers)
	}
	for s, want := range map[string]struct {
		line int
		err  api.Errno
	}{
		"": {1, api.ErrSyntax}, "name n": {1, api.ErrSyntax}, "name n\n": {2, api.ErrSyntax}, "names n\n": {1, api.ErrSyntax}, "name 1\n": {1, api.ErrSyntax}, "name n n\n": {1, api.ErrSyntax},
		"name n\nnumber 3\n": {2, api.ErrSyntax}, "name n\nnumbers 3 x\n": {2, api.ErrSyntax}, "name n\nnumbers 3 4 5\n": {2, api.ErrLong}, "name n\nnumbers 3 4 5 x\n": {2, api.ErrSyntax},
		head: {3, api.ErrSyntax}, head + "end\n": {0, api.OK}, head + "  ret\n": {3, api.ErrSyntax}, head + "block\n ret\n": {4, api.ErrSyntax}, head + "end\nend\n": {4, api.ErrSyntax}, head + "end": {3, api.ErrSyntax},
		head + "block\nblock\nend\n": {0, api.OK}, head + "block\nblock\nblock\n": {5, api.ErrLong},
		head + "block\n  ret\n  ret\n  ret\nend\n": {0, api.OK}, head + "block\n  ret\n  ret\n  ret\n  ret\n": {7, api.ErrLong}, head + "block\n  ret\n  ret\n  ret\n  rets\n": {7, api.ErrSyntax},
	} {
		b, line, err := l.Read(s)
		if line != want.line || err != want.err || err != api.OK && len(b) > 0 {
			t.Errorf("%q: %v at line %d, error %d, want %v", s, b, line, err, want)
		}
	}
}

func TestText(t *testing.T) {
	var text lines.Text
	text.Line("name", "n")
	text.Line("numbers", lines.Numerals([]int{3, -4})...)
	text.Line("none")
	text.Blocks([][]api.Ins{{{Kind: api.KRet}, {Kind: api.KStore, A: 1, B: 2}}, nil}, tongue().Words)
	if got, want := text.String(), "name n\nnumbers 3 -4\nnone\nblock\n  ret\n  store r1 r2\nblock\nend\n"; got != want {
		t.Errorf("%q, want %q", got, want)
	}
}

func TestNumbers(t *testing.T) {
	for word, n := range map[string]int{"0": 0, "7": 7, "-7": -7, "99999": 99999, "100000": 100000, "9223372036854775807": math.MaxInt, "-9223372036854775808": math.MinInt} {
		if got, ok := lines.Integer(word); got != n || !ok {
			t.Errorf("%q: %d, %v", word, got, ok)
		}
		if got, ok := lines.Number(word); ok != (0 <= n && n < 100000) || ok && got != n || ok != lines.IsNumber(n) {
			t.Errorf("%q: %d, %v", word, got, ok)
		}
	}
	for _, word := range []string{"", "-", "+1", "-0", "00", "01", "-01", "1 ", " 1", "1_0", "0x1", "x", "9223372036854775808", "-9223372036854775809", "99999999999999999999999"} {
		if n, ok := lines.Integer(word); ok {
			t.Errorf("%q: %d", word, n)
		}
		if n, ok := lines.Number(word); ok {
			t.Errorf("%q: %d", word, n)
		}
	}
}
