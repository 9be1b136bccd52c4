package tests

import (
	"math/bits"
	"slices"
	"testing"

	"loop.example/g03006/impl"
)

// rich has the most full stages that a list of paths can have.
func rich() []impl.Path {
	return []impl.Path{
		walk(1, 0), car(2, 0, 1), car(3, 0, 2), car(4, 1, 0), walk(5, 1), car(6, 1, 2),
		car(7, 2, 0), car(8, 2, 1), walk(9, 2), car(10, 3, 0), car(11, 3, 1), car(12, 3, 2),
	}
}

// rivals are paths of which each two conflict.
func rivals() []impl.Path {
	return []impl.Path{car(2, 0, 2), car(9, 1, 2), bus(10, 3, 2), walk(20, 2)}
}

// friends are paths that conflict with nothing.
func friends() []impl.Path {
	return []impl.Path{walk(3, 1), car(4, 0, 2), bus(5, 0, 2), car(6, 2, 0), walk(11, 3), walk(19, 3)}
}

func stagedCrossings(seed int64, count int) [][]impl.Path {
	return append(someCrossings(seed, count), rich(), rivals(), friends(), walks(1, 12), walks(9, 12))
}

func sameStages(a [][]int, b [][]int) bool {
	return slices.EqualFunc(a, b, slices.Equal[[]int])
}

// put returns ids with one more, in its place.
func put(ids []int, id int) []int {
	more := append(slices.Clone(ids), id)
	slices.Sort(more)
	return more
}

// isFull is the oracle for IsFullStage of a list of paths for which ArePaths holds.
func isFull(l []impl.Path, ids []int) bool {
	if !areTogether(l, ids) {
		return false
	}
	for _, p := range l {
		if !slices.Contains(ids, p.Id) && areTogether(l, put(ids, p.Id)) {
			return false
		}
	}
	return true
}

// fullStages is the oracle for StagesOf, without a limit.
func fullStages(l []impl.Path) [][]int {
	var stages [][]int
	for _, ids := range subsetsOf(l) {
		if len(ids) > 0 && isFull(l, ids) {
			stages = append(stages, ids)
		}
	}
	slices.SortFunc(stages, slices.Compare[[]int])
	return stages
}

// filled is the oracle for AddToStage.
func filled(l []impl.Path, ids []int) []int {
	if !areTogether(l, ids) {
		return ids
	}
	for _, p := range l {
		if !slices.Contains(ids, p.Id) && areTogether(l, put(ids, p.Id)) {
			ids = put(ids, p.Id)
		}
	}
	return ids
}

// cover is the oracle for CoverOf.
func cover(l []impl.Path) [][]int {
	var stages [][]int
	for _, p := range l {
		if !slices.Contains(slices.Concat(stages...), p.Id) {
			stages = append(stages, filled(l, []int{p.Id}))
		}
	}
	return stages
}

func TestIsFullStage(t *testing.T) {
	cases := []struct {
		l    []impl.Path
		ids  []int
		want bool
	}{
		{cross(), []int{1}, true}, {cross(), []int{2, 3, 4}, true}, {cross(), nil, false}, {cross(), []int{}, false},
		{cross(), []int{2, 3}, false}, {cross(), []int{2, 4}, false}, {cross(), []int{3, 4}, false}, {cross(), []int{4}, false}, {cross(), []int{1, 2}, false}, {cross(), []int{1, 2, 3, 4}, false},
		{nil, nil, true}, {nil, []int{}, true}, {[]impl.Path{}, nil, true}, {nil, []int{1}, false}, {cross()[:1], []int{1}, true}, {cross()[:1], nil, false},
		{rivals(), []int{2}, true}, {rivals(), []int{20}, true}, {rivals(), []int{2, 9}, false}, {rivals(), nil, false},
		{friends(), []int{3, 4, 5, 6, 11, 19}, true}, {friends(), []int{3, 4, 5, 6, 11}, false}, {friends(), []int{4, 5, 6, 11, 19}, false}, {friends(), []int{3, 4, 5, 6, 11, 20}, false},
	}
	for _, c := range cases {
		if got := impl.IsFullStage(c.l, c.ids); got != c.want {
			t.Errorf("IsFullStage(%v, %v) = %v", c.l, c.ids, got)
		}
	}
	for _, ids := range oddIds() {
		if impl.IsFullStage(cross(), ids) || impl.IsFullStage(walks(1, 12), ids) || impl.IsFullStage(nil, ids) {
			t.Errorf("IsFullStage of %v is true", ids)
		}
	}
	for _, l := range stagedCrossings(7, 60) {
		for _, ids := range subsetsOf(l) {
			if got := impl.IsFullStage(l, ids); got != isFull(l, ids) {
				t.Errorf("IsFullStage(%v, %v) = %v", l, ids, got)
			}
		}
	}
}

func TestStagesOf(t *testing.T) {
	cases := []struct {
		l    []impl.Path
		want [][]int
	}{
		{nil, nil}, {[]impl.Path{}, nil}, {cross(), [][]int{{1}, {2, 3, 4}}}, {cross()[:1], [][]int{{1}}},
		// Of the Ids 2, 9 and 10 the text of the last one is the least.
		{rivals(), [][]int{{2}, {9}, {10}, {20}}},
		{friends(), [][]int{{3, 4, 5, 6, 11, 19}}}, {walks(1, 12), [][]int{{1, 2, 3, 4, 5, 6, 7, 8, 9, 10, 11, 12}}},
		// The first Id that differs decides, not the number of Ids.
		{[]impl.Path{walk(1, 0), walk(2, 1), walk(3, 2), car(4, 0, 2), bus(5, 1, 3)}, [][]int{{1, 2, 3}, {1, 3, 5}, {2, 4}}},
		{[]impl.Path{car(1, 0, 2), car(2, 1, 3), walk(18, 1), walk(19, 3)}, [][]int{{1, 18, 19}, {2}}},
		// A path that conflicts with nothing is in each stage.
		{[]impl.Path{car(1, 0, 3), car(2, 1, 2), car(3, 3, 2), walk(20, 1)}, [][]int{{1, 2}, {1, 3, 20}}},
		{[]impl.Path{car(1, 0, 1), walk(2, 3), car(3, 2, 1)}, [][]int{{1, 2}, {2, 3}}},
	}
	for _, c := range cases {
		if got := impl.StagesOf(c.l); !sameStages(got, c.want) {
			t.Errorf("StagesOf(%v) = %v; want %v", c.l, got, c.want)
		}
	}
	for _, l := range stagedCrossings(8, 120) {
		want := fullStages(l)
		if got := impl.StagesOf(l); !sameStages(got, want[:min(len(want), impl.MaxStages)]) {
			t.Errorf("StagesOf(%v) = %v; want %v", l, got, want)
		}
	}
}

// No list of paths reaches the limit, and so none is cut: two cars or buses with the same arms are in the same stages,
// and of the 16 ways over a crossing no 12 have more than 24 full stages.
func TestMaxStagesIsNeverReached(t *testing.T) {
	if impl.MaxStages != 40 {
		t.Error(impl.MaxStages)
	}
	forms := validForms()[:16]
	against := make([]int, 1<<len(forms))
	var together []int
	for m := range against {
		for i, p := range forms {
			for j, q := range forms {
				if m>>i&1 == 1 && impl.Conflict(p, q) {
					against[m] |= 1 << j
				}
			}
		}
		if against[m]&m == 0 {
			together = append(together, m)
		}
	}
	most := 0
	for chosen := range against {
		if bits.OnesCount(uint(chosen)) > impl.MaxPaths {
			continue
		}
		count := 0
		for _, m := range together {
			if m&^chosen == 0 && (against[m]|m)&chosen == chosen {
				count++
			}
		}
		most = max(most, count)
	}
	if most != 24 || len(impl.StagesOf(rich())) != most {
		t.Errorf("a list has %d full stages; StagesOf returns %v", most, impl.StagesOf(rich()))
	}
}

// Promise 6: every stage is full, and a cover has every path.
func TestStagesAreFullAndCoversHaveEveryPath(t *testing.T) {
	for _, l := range stagedCrossings(9, 1000) {
		stages := impl.StagesOf(l)
		for i, ids := range stages {
			if !impl.IsFullStage(l, ids) || !isFull(l, ids) || len(ids) == 0 {
				t.Errorf("StagesOf(%v) has %v, which is not full", l, ids)
			}
			if i > 0 && slices.Compare(stages[i-1], ids) >= 0 {
				t.Errorf("StagesOf(%v) has %v behind %v", l, ids, stages[i-1])
			}
		}
		covering := impl.CoverOf(l)
		for _, ids := range covering {
			if !impl.IsFullStage(l, ids) || !isFull(l, ids) {
				t.Errorf("CoverOf(%v) has %v, which is not full", l, ids)
			}
		}
		for _, p := range l {
			if !slices.Contains(slices.Concat(covering...), p.Id) || !slices.Contains(slices.Concat(stages...), p.Id) {
				t.Errorf("%v: %d is missing in CoverOf %v or StagesOf %v", l, p.Id, covering, stages)
			}
			if added := impl.AddToStage(l, []int{p.Id}); !isFull(l, added) || !slices.Contains(added, p.Id) {
				t.Errorf("AddToStage(%v, {%d}) = %v", l, p.Id, added)
			}
		}
		if !impl.Covers(l, covering) || !impl.Covers(l, stages) {
			t.Errorf("%v is not covered by %v or %v", l, covering, stages)
		}
	}
}

func TestAddToStage(t *testing.T) {
	cases := []struct {
		l         []impl.Path
		ids, want []int
	}{
		{cross(), nil, []int{1}}, {cross(), []int{}, []int{1}}, {cross(), []int{1}, []int{1}}, {cross(), []int{2}, []int{2, 3, 4}}, {cross(), []int{3}, []int{2, 3, 4}},
		{cross(), []int{4}, []int{2, 3, 4}}, {cross(), []int{2, 4}, []int{2, 3, 4}}, {cross(), []int{2, 3, 4}, []int{2, 3, 4}},
		{cross(), []int{1, 2}, []int{1, 2}}, {cross(), []int{1, 2, 3, 4}, []int{1, 2, 3, 4}}, {cross(), []int{9}, []int{9}}, {cross(), []int{2, 9}, []int{2, 9}},
		{nil, nil, nil}, {nil, []int{1}, []int{1}}, {nil, []int{2, 1}, []int{2, 1}}, {rivals(), nil, []int{2}}, {rivals(), []int{10}, []int{10}}, {rivals(), []int{20}, []int{20}},
		{friends(), nil, []int{3, 4, 5, 6, 11, 19}}, {friends(), []int{6}, []int{3, 4, 5, 6, 11, 19}}, {friends(), []int{19}, []int{3, 4, 5, 6, 11, 19}},
		// The first path that can be added keeps out what conflicts with it.
		{[]impl.Path{car(1, 0, 3), car(2, 1, 2), car(3, 3, 2), walk(20, 1)}, nil, []int{1, 2}},
		{[]impl.Path{car(1, 0, 3), car(2, 1, 2), car(3, 3, 2), walk(20, 1)}, []int{20}, []int{1, 3, 20}},
	}
	for _, c := range cases {
		if got := impl.AddToStage(c.l, c.ids); !slices.Equal(got, c.want) {
			t.Errorf("AddToStage(%v, %v) = %v; want %v", c.l, c.ids, got, c.want)
		}
	}
	for _, ids := range oddIds() {
		for _, l := range [][]impl.Path{nil, cross(), walks(1, 12), rich()} {
			if got := impl.AddToStage(l, ids); !slices.Equal(got, ids) {
				t.Errorf("AddToStage(%v, %v) = %v; want a copy", l, ids, got)
			}
		}
	}
	for _, l := range stagedCrossings(10, 60) {
		for _, ids := range subsetsOf(l) {
			if got := impl.AddToStage(l, ids); !slices.Equal(got, filled(l, ids)) {
				t.Errorf("AddToStage(%v, %v) = %v; want %v", l, ids, got, filled(l, ids))
			}
		}
	}
}

func TestCoverOf(t *testing.T) {
	cases := []struct {
		l    []impl.Path
		want [][]int
	}{
		{nil, nil}, {[]impl.Path{}, nil}, {cross(), [][]int{{1}, {2, 3, 4}}}, {rivals(), [][]int{{2}, {9}, {10}, {20}}}, {friends(), [][]int{{3, 4, 5, 6, 11, 19}}},
		// A path can be in several stages: one that was there before is added again.
		{[]impl.Path{car(1, 0, 3), car(2, 1, 2), car(3, 3, 2), walk(20, 1)}, [][]int{{1, 2}, {1, 3, 20}}},
		{[]impl.Path{walk(1, 0), walk(2, 1), walk(3, 2), car(4, 0, 2), bus(5, 1, 3)}, [][]int{{1, 2, 3}, {2, 4}, {1, 3, 5}}},
		{[]impl.Path{walk(1, 2), car(2, 0, 2), car(3, 0, 1)}, [][]int{{1, 3}, {2, 3}}},
	}
	for _, c := range cases {
		if got := impl.CoverOf(c.l); !sameStages(got, c.want) {
			t.Errorf("CoverOf(%v) = %v; want %v", c.l, got, c.want)
		}
	}
	for _, l := range stagedCrossings(11, 500) {
		if got := impl.CoverOf(l); !sameStages(got, cover(l)) {
			t.Errorf("CoverOf(%v) = %v; want %v", l, got, cover(l))
		}
	}
}

func TestCovers(t *testing.T) {
	cases := []struct {
		l      []impl.Path
		stages [][]int
		want   bool
	}{
		{cross(), [][]int{{1}, {2, 3, 4}}, true}, {cross(), [][]int{{2, 3, 4}, {1}}, true}, {cross(), [][]int{{4}, {3}, {2}, {1}}, true}, {cross(), [][]int{{1}, {1}, {2, 3}, {3, 4}}, true},
		// An empty stage is one; a stage need not be full.
		{cross(), [][]int{nil, {1}, {}, {2, 3, 4}}, true}, {cross(), [][]int{{1}, {2, 4}, {3}}, true},
		// A path that is in none.
		{cross(), nil, false}, {cross(), [][]int{nil}, false}, {cross(), [][]int{{1}}, false}, {cross(), [][]int{{2, 3, 4}}, false}, {cross(), [][]int{{1}, {2, 3}}, false}, {cross(), [][]int{{1}, {3, 4}}, false},
		// A list that is no stage, also when the others have every path.
		{cross(), [][]int{{1, 2}, {3, 4}}, false}, {cross(), [][]int{{1}, {2, 3, 4}, {1, 2}}, false}, {cross(), [][]int{{3, 2}, {1}, {2, 3, 4}}, false}, {cross(), [][]int{{1}, {2, 3, 4}, {5}}, false},
		{cross(), [][]int{{1}, {2, 3, 4, 4}, {2, 3, 4}}, false}, {cross(), [][]int{{0}, {1}, {2, 3, 4}}, false}, {cross(), [][]int{{1, 2, 3, 4}}, false},
		{nil, nil, true}, {nil, [][]int{}, true}, {nil, [][]int{nil, {}}, true}, {nil, [][]int{{1}}, false}, {nil, [][]int{{0}}, false},
		{rivals(), [][]int{{2}, {9}, {10}, {20}}, true}, {rivals(), [][]int{{2}, {9}, {10}}, false}, {rivals(), [][]int{{2, 9, 10, 20}}, false},
		{friends(), [][]int{{3, 4, 5}, {6, 11, 19}}, true}, {friends(), [][]int{{3, 4, 5}, {6, 11}}, false}, {walks(1, 12), [][]int{{1, 2, 3, 4, 5, 6, 7, 8, 9, 10, 11, 12}}, true},
		{walks(1, 12), [][]int{{1, 2, 3, 4, 5, 6, 7, 8, 9, 10, 11}}, false}, {walks(1, 12), [][]int{{2, 3, 4, 5, 6, 7, 8, 9, 10, 11, 12}}, false},
	}
	for _, c := range cases {
		if got := impl.Covers(c.l, c.stages); got != c.want {
			t.Errorf("Covers(%v, %v) = %v", c.l, c.stages, got)
		}
	}
	for _, ids := range oddIds() {
		if impl.Covers(cross(), [][]int{{1}, {2, 3, 4}, ids}) || impl.Covers(cross(), [][]int{ids, {1}, {2, 3, 4}}) || impl.Covers(nil, [][]int{ids}) {
			t.Errorf("Covers with %v is true", ids)
		}
	}
}

// Where ArePaths is false there is no stage, not even an empty one, and what is added to is copied.
func TestStagesOfNoCrossing(t *testing.T) {
	for _, l := range notCrossings() {
		if len(impl.StagesOf(l)) != 0 || len(impl.CoverOf(l)) != 0 || impl.Covers(l, nil) || impl.Covers(l, [][]int{{}}) || impl.Covers(l, [][]int{{1}, {2}, {3}, {4}}) || impl.IsFullStage(l, nil) {
			t.Errorf("%v: StagesOf %v, CoverOf %v", l, impl.StagesOf(l), impl.CoverOf(l))
		}
		for _, ids := range append(oddIds(), nil, []int{}, []int{1}, []int{1, 2}, []int{2, 3, 4}, []int{20}) {
			if impl.IsFullStage(l, ids) || !slices.Equal(impl.AddToStage(l, ids), ids) {
				t.Errorf("%v: IsFullStage of %v is %v, AddToStage %v", l, ids, impl.IsFullStage(l, ids), impl.AddToStage(l, ids))
			}
		}
	}
}

// spoil overwrites the lists with all their spare capacity.
func spoil(lists ...[]int) {
	for _, list := range lists {
		list = list[:cap(list)]
		for i := range list {
			list[i] = -1
		}
	}
}

// copyStages returns the lists of stages in other memory.
func copyStages(stages [][]int) [][]int {
	var copied [][]int
	for _, ids := range stages {
		copied = append(copied, slices.Clone(ids))
	}
	return copied
}

// A write to one list of a result changes none of the others, and no later result.
func TestStagesAreNewMemory(t *testing.T) {
	calls := map[string]func(l []impl.Path) [][]int{"StagesOf": impl.StagesOf, "CoverOf": impl.CoverOf}
	for name, call := range calls {
		for _, l := range stagedCrossings(12, 60) {
			want := copyStages(call(l))
			other := call(l)
			for i := range want {
				stages := call(l)
				spoil(stages[i])
				for j := range want {
					if j != i && !slices.Equal(stages[j], want[j]) {
						t.Errorf("%s(%v): a write to the stage %d changes %v to %v", name, l, i, want[j], stages[j])
					}
				}
				// What stands behind the last stage is of this result alone, too.
				stages = stages[:cap(stages)]
				clear(stages)
			}
			if !sameStages(other, want) || !sameStages(call(l), want) {
				t.Errorf("%s(%v): a write to a result changes %v to %v or %v", name, l, want, other, call(l))
			}
		}
	}
}

// Neither a list nor its spare capacity is changed, and what is added to is not kept.
func TestStagesLeaveTheirArguments(t *testing.T) {
	for _, plain := range append(stagedCrossings(13, 40), notCrossings()...) {
		l, whole := roomy(plain, car(5, 0, 1), car(6, 1, 0))
		paths := slices.Clone(whole)
		impl.StagesOf(l)
		impl.CoverOf(l)
		for _, some := range append(oddIds(), nil, []int{1}, []int{2}, []int{2, 3, 4}, []int{1, 2}, []int{3}) {
			ids, wholeIds := roomy(some, 4, 1, 77)
			numbers := slices.Clone(wholeIds)
			impl.IsFullStage(l, ids)
			first, second := impl.AddToStage(l, ids), impl.AddToStage(l, ids)
			want := slices.Clone(second)
			spoil(first)
			if !slices.Equal(wholeIds, numbers) {
				t.Errorf("AddToStage(%v, %v), or a write to its result, changes %v to %v", l, some, numbers, wholeIds)
			}
			spoil(ids)
			if !slices.Equal(second, want) {
				t.Errorf("AddToStage(%v, %v): a write to its argument or to another result changes %v to %v", l, some, want, second)
			}
		}
		stages, wholeStages := roomy([][]int{{1}, {2, 3, 4}}, []int{7}, nil)
		last, wholeLast := roomy([]int{2, 3}, 4, 1)
		stages[1] = last
		impl.Covers(l, stages)
		if !slices.Equal(whole, paths) || !sameStages(wholeStages, [][]int{{1}, {2, 3}, {7}, nil}) || !slices.Equal(wholeLast, []int{2, 3, 4, 1}) {
			t.Errorf("changed: %v to %v, the stages to %v and %v", paths, whole, wholeStages, wholeLast)
		}
	}
}
