package ins_test

import (
	"iter"
	"slices"
	"testing"

	"pigeonhole/api"
	"pigeonhole/ins"
)

func TestEachKind(t *testing.T) {
	for _, y := range []struct {
		kind                   int
		writes, reads, targets []int
		end                    bool
	}{
		{kind: api.KConst, writes: []int{1}},
		{kind: api.KCopy, writes: []int{1}, reads: []int{2}},
		{kind: api.KOp, writes: []int{1}, reads: []int{4, 5, 4}},
		{kind: api.KLoad, writes: []int{1}, reads: []int{2}},
		{kind: api.KStore, reads: []int{2, 3}},
		{kind: api.KCall, writes: []int{1}, reads: []int{4, 5, 4}},
		{kind: api.KBr, reads: []int{2}, targets: []int{6, 7}, end: true},
		{kind: api.KJump, targets: []int{6}, end: true},
		{kind: api.KRet, reads: []int{2}, end: true},
		{kind: 0}, {kind: -1}, {kind: 12},
	} {
		x := api.Ins{Kind: y.kind, D: 1, A: 2, B: 3, N: 9, Name: "f", Args: []int{4, 5, 4}, T: 6, F: 7}
		for what, l := range map[string]struct {
			got  iter.Seq[int]
			want []int
		}{"writes": {ins.Writes(x), y.writes}, "reads": {ins.Reads(x), y.reads}, "targets": {ins.Targets(x), y.targets}} {
			if got := slices.Collect(l.got); !slices.Equal(got, l.want) {
				t.Errorf("kind %d %s %v, want %v", y.kind, what, got, l.want)
			}
		}
		if ins.IsEnd(x) != y.end {
			t.Errorf("kind %d is an end: %v", y.kind, !y.end)
		}
	}
	call := api.Ins{Kind: api.KCall, D: ins.Nowhere, Args: []int{3}}
	if l := slices.Collect(ins.Writes(call)); len(l) > 0 {
		t.Errorf("a call whose value is not wanted writes %v", l)
	}
}
