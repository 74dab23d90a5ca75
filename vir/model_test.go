package vir_test

import (
	"fmt"
	"math/big"
	"reflect"
	"regexp"
	"strings"

	"pigeonhole/api"
)

// A model of the chapter: lines are held against expressions, an instruction's parts against what its kind names.

const nameForm = `[A-Za-z_][A-Za-z_0-9]{0,19}`

var oneName = regexp.MustCompile(`\A` + nameForm + `\z`)

func modelName(s string) bool { return oneName.MatchString(s) }

func modelNumber(n int) bool { return n >= 0 && n < 100000 }

// modelOperation tells whether an operation may have that name.
func modelOperation(s string) bool {
	return modelName(s) && s != "const" && s != "copy" && s != "load" && s != "call"
}

// modelIns tells whether x can be written down: whether it is one of those that its kind allows.
func modelIns(x api.Ins) bool {
	named := map[int]api.Ins{
		1: {D: x.D, N: x.N},
		2: {D: x.D, A: x.A},
		3: {D: x.D, Name: x.Name, Args: x.Args},
		4: {D: x.D, A: x.A},
		5: {A: x.A, B: x.B},
		6: {D: x.D, Name: x.Name, Args: x.Args},
		7: {A: x.A, T: x.T, F: x.F},
		8: {T: x.T},
		9: {A: x.A},
	}
	y, ok := named[x.Kind]
	y.Kind = x.Kind
	if !ok || len(x.Args) > 0 && y.Args == nil {
		return false
	}
	y.Args = x.Args
	if !reflect.DeepEqual(x, y) {
		return false
	}
	switch x.Kind {
	case 3:
		ok = modelOperation(x.Name) && (len(x.Args) == 1 || len(x.Args) == 2)
	case 6:
		ok = modelName(x.Name) && len(x.Args) <= 16
		if x.D == -1 {
			x.D = 0 // the one is as good as the other
		}
	}
	for _, n := range append([]int{x.D, x.A, x.B, x.T, x.F}, x.Args...) {
		ok = ok && modelNumber(n)
	}
	return ok
}

func modelPlain(f api.Func) bool {
	ok := modelName(f.Name) && modelName(f.Result) && len(f.Vregs) <= 500 && len(f.Params) <= 16 && len(f.Blocks) <= 200
	for _, s := range f.Vregs {
		ok = ok && modelName(s)
	}
	for _, n := range f.Params {
		ok = ok && modelNumber(n)
	}
	for _, b := range f.Blocks {
		ok = ok && len(b) <= 400
		for _, x := range b {
			ok = ok && modelIns(x)
		}
	}
	return ok
}

// modelLine is the line of x.
func modelLine(x api.Ins) string {
	args := ""
	for _, n := range x.Args {
		args += fmt.Sprintf(" %d", n)
	}
	switch x.Kind {
	case 1:
		return fmt.Sprintf("  %d = const %d\n", x.D, x.N)
	case 2:
		return fmt.Sprintf("  %d = copy %d\n", x.D, x.A)
	case 3:
		return fmt.Sprintf("  %d = %s%s\n", x.D, x.Name, args)
	case 4:
		return fmt.Sprintf("  %d = load %d\n", x.D, x.A)
	case 5:
		return fmt.Sprintf("  store %d %d\n", x.A, x.B)
	case 6:
		if x.D == -1 {
			return fmt.Sprintf("  call %s%s\n", x.Name, args)
		}
		return fmt.Sprintf("  %d = call %s%s\n", x.D, x.Name, args)
	case 7:
		return fmt.Sprintf("  br %d %d %d\n", x.A, x.T, x.F)
	case 8:
		return fmt.Sprintf("  jump %d\n", x.T)
	}
	return fmt.Sprintf("  ret %d\n", x.A)
}

// modelPrint is the text of f, plain or not.
func modelPrint(f api.Func) string {
	var s strings.Builder
	behind := func(word string, l any) {
		if words := strings.Trim(fmt.Sprint(l), "[]"); words != "" {
			word += " " + words
		}
		s.WriteString(word + "\n")
	}
	behind("func", f.Name)
	behind("regs", f.Vregs)
	behind("params", f.Params)
	behind("result", f.Result)
	for _, b := range f.Blocks {
		s.WriteString("block\n")
		for _, x := range b {
			s.WriteString(modelLine(x))
		}
	}
	return s.String() + "end\n"
}

// kind is one kind of lines: those of that form; they have that error, if what is caught there is not ok.
type kind struct {
	form *regexp.Regexp
	ok   func(caught string) bool
	err  api.Errno
}

func kindOf(form string) kind {
	form = strings.NewReplacer("NAMES", "((?: NAME)*)", "NUMBERS", "((?: NUMBER)*)").Replace(form)
	form = strings.NewReplacer("NAME", nameForm, "NUMBER", "(?:0|[1-9][0-9]{0,4})", "WHOLE", "(?:0|-?[1-9][0-9]*)").Replace(form)
	return kind{form: regexp.MustCompile(`\A` + form + `\n\z`)}
}

// only is those of k of which what is caught is ok; the others have that error.
func (k kind) only(err api.Errno, ok func(caught string) bool) kind {
	k.ok, k.err = ok, err
	return k
}

// fault is the error of a line that should be of that kind.
func (k kind) fault(line string) api.Errno {
	switch l := k.form.FindStringSubmatch(line); {
	case l == nil:
		return api.ErrSyntax
	case k.ok != nil && !k.ok(l[1]):
		return k.err
	}
	return api.OK
}

// few tells that no more than so many words are caught.
func few(most int) func(string) bool {
	return func(caught string) bool { return len(strings.Fields(caught)) <= most }
}

// fitsInt tells whether a number of any length is an int.
func fitsInt(s string) bool {
	n, ok := new(big.Int).SetString(s, 10)
	return ok && n.IsInt64()
}

var (
	headKinds = []kind{
		kindOf("func NAME"),
		kindOf("regsNAMES").only(api.ErrLong, few(500)),
		kindOf("paramsNUMBERS").only(api.ErrLong, few(16)),
		kindOf("result NAME"),
	}
	insKinds = []kind{
		kindOf("  NUMBER = const (WHOLE)").only(api.ErrSyntax, fitsInt),
		kindOf("  NUMBER = copy NUMBER"),
		kindOf("  NUMBER = (NAME) NUMBER(?: NUMBER)?").only(api.ErrSyntax, modelOperation),
		kindOf("  NUMBER = load NUMBER"),
		kindOf("  store NUMBER NUMBER"),
		kindOf("  (?:NUMBER = )?call NAMENUMBERS").only(api.ErrLong, few(16)),
		kindOf("  br NUMBER NUMBER NUMBER"),
		kindOf("  jump NUMBER"),
		kindOf("  ret NUMBER"),
	}
)

// modelInsLine is the error of the line of an instruction: that of the one kind that it is of.
func modelInsLine(line string) api.Errno {
	for _, k := range insKinds {
		if err := k.fault(line); err != api.ErrSyntax {
			return err
		}
	}
	return api.ErrSyntax
}

// modelRead is the first line of s that cannot be, and why.
func modelRead(s string) (int, api.Errno) {
	if len(s) > 65536 {
		return 0, api.ErrLong
	}
	lines := strings.SplitAfter(s, "\n")
	blocks, ins := 0, 0
	for i, line := range lines {
		switch {
		case i < 4:
			if err := headKinds[i].fault(line); err != api.OK {
				return i + 1, err
			}
		case line == "block\n":
			blocks, ins = blocks+1, 0
		case line == "end\n" && i+2 == len(lines) && lines[i+1] == "":
			return 0, api.OK
		case line == "end\n":
			return i + 2, api.ErrSyntax
		case blocks == 0:
			return i + 1, api.ErrSyntax
		default:
			ins++
			if err := modelInsLine(line); err != api.OK {
				return i + 1, err
			}
		}
		if blocks > 200 || ins > 400 {
			return i + 1, api.ErrLong
		}
	}
	return len(lines), api.ErrSyntax
}
