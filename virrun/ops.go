package virrun

// operation is how many values an operation has, at most two, and what it answers of them (of one alone the second is
// 0). What is handed in is cut to a width; what is answered is to be cut to it. False: it answers nothing.
type operation struct {
	arity int
	of    func(a, b uint64) (uint64, bool)
}

// operations are operations by their names.
type operations map[string]operation

// all is all operations.
func all() operations {
	return operations{
		"add": always(func(a, b uint64) uint64 { return a + b }),
		"sub": always(func(a, b uint64) uint64 { return a - b }),
		"mul": always(func(a, b uint64) uint64 { return a * b }),
		"and": always(func(a, b uint64) uint64 { return a & b }),
		"or":  always(func(a, b uint64) uint64 { return a | b }),
		"xor": always(func(a, b uint64) uint64 { return a ^ b }),
		"shl": always(func(a, b uint64) uint64 { return a << (b & 63) }),
		"shr": always(func(a, b uint64) uint64 { return a >> (b & 63) }),
		"div": unlessZero(func(a, b uint64) uint64 { return a / b }),
		"rem": unlessZero(func(a, b uint64) uint64 { return a % b }),
		"lt":  whether(func(a, b uint64) bool { return a < b }),
		"eq":  whether(func(a, b uint64) bool { return a == b }),
		"not": {1, func(a, _ uint64) (uint64, bool) { return ^a, true }},
	}
}

// always is an operation that answers of any two values.
func always(of func(a, b uint64) uint64) operation {
	return operation{2, func(a, b uint64) (uint64, bool) { return of(a, b), true }}
}

// unlessZero is an operation that answers of any two values, unless the second one is 0.
func unlessZero(of func(a, b uint64) uint64) operation {
	return operation{2, func(a, b uint64) (uint64, bool) {
		if b == 0 {
			return 0, false
		}
		return of(a, b), true
	}}
}

// whether is an operation that answers 1 or 0, as something is so of two values or not.
func whether(so func(a, b uint64) bool) operation {
	return always(func(a, b uint64) uint64 {
		if so(a, b) {
			return 1
		}
		return 0
	})
}

// do is what the operation of that name answers of values of that width; false: it answers nothing.
func (l operations) do(name string, width int, args []int) (int, bool) {
	op, ok := l[name]
	if !ok || len(args) != op.arity {
		return 0, false
	}
	var v [2]uint64
	for i, n := range args {
		v[i] = uint64(cut(n, width))
	}
	answer, ok := op.of(v[0], v[1])
	return cut(int(answer), width), ok
}

// cut is the value of that width that has n's lowest bits.
func cut(n, width int) int {
	off := 64 - min(max(width, 1), 64)
	// Unsigned, so that a value of less than 64 bits is none below 0.
	return int(uint64(n) << off >> off)
}
