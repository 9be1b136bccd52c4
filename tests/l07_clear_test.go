package tests

import (
	"math"
	"math/rand"
	"slices"
	"testing"

	"loop.example/g03006/impl"
)

// clearSeconds is the oracle for ClearOf of a valid path.
func clearSeconds(p impl.Path) int {
	return map[int]int{impl.PtCar: 2, impl.PtBus: 3, impl.PtWalk: 5}[p.Kind]
}

// pathOf returns the path of l with this Id, which must be there.
func pathOf(l []impl.Path, id int) impl.Path {
	return l[slices.IndexFunc(l, func(p impl.Path) bool { return p.Id == id })]
}

// clearSecondsBetween is the oracle for ClearBetween of a list of paths for which ArePaths holds.
func clearSecondsBetween(l []impl.Path, a []int, b []int) int {
	if !areTogether(l, a) || !areTogether(l, b) {
		return 0
	}
	longest := 0
	for _, closing := range a {
		for _, opening := range b {
			if slices.Contains(b, closing) || slices.Contains(a, opening) || !collide(pathOf(l, closing), pathOf(l, opening)) {
				continue
			}
			longest = max(longest, clearSeconds(pathOf(l, closing)))
		}
	}
	return longest
}

// stagesAmong returns all lists of Ids of l that are stages, the empty one among them.
func stagesAmong(l []impl.Path) [][]int {
	return slices.DeleteFunc(subsetsOf(l), func(ids []int) bool { return !areTogether(l, ids) })
}

func TestClearOf(t *testing.T) {
	if impl.CarClear != 2 || impl.BusClear != 3 || impl.WalkClear != 5 {
		t.Error(impl.CarClear, impl.BusClear, impl.WalkClear)
	}
	valid := validPaths()
	for p := range valid {
		if got := impl.ClearOf(p); got != clearSeconds(p) || got == 0 {
			t.Errorf("ClearOf(%v) = %d", p, got)
		}
	}
	for _, p := range invalidPaths() {
		if got := impl.ClearOf(p); got != 0 {
			t.Errorf("ClearOf(%v) = %d; it is not valid", p, got)
		}
	}
	for _, p := range validForms() {
		for _, n := range around(0, 20) {
			for _, q := range []impl.Path{path(n, p.Kind, p.From, p.To), path(p.Id, n, p.From, p.To), path(p.Id, p.Kind, n, p.To), path(p.Id, p.Kind, p.From, n)} {
				if got := impl.ClearOf(q); got != 0 && !valid[q] || got != clearSeconds(q) && valid[q] {
					t.Errorf("ClearOf(%v) = %d", q, got)
				}
			}
		}
	}
}

func TestClearBetween(t *testing.T) {
	// Path 1 crosses 2, and 3 is in the way of neither.
	apart := []impl.Path{car(1, 0, 2), car(2, 1, 3), walk(3, 1), bus(4, 2, 0)}
	cases := []struct {
		l    []impl.Path
		a, b []int
		want int
	}{
		// Each kind, alone and with others that clear for longer.
		{cross(), []int{1}, []int{2}, 2}, {cross(), []int{2}, []int{1}, 2}, {cross(), []int{3}, []int{1}, 5}, {cross(), []int{4}, []int{1}, 3},
		{cross(), []int{2, 4}, []int{1}, 3}, {cross(), []int{2, 3, 4}, []int{1}, 5}, {cross(), []int{1}, []int{2, 3, 4}, 2}, {cross(), []int{1}, []int{3}, 2},
		// Stages that are the same, or that close nothing.
		{cross(), []int{1}, []int{1}, 0}, {cross(), []int{2, 3, 4}, []int{2, 3, 4}, 0}, {cross(), []int{2}, []int{2, 3}, 0}, {cross(), nil, []int{1}, 0}, {cross(), nil, []int{2, 3, 4}, 0}, {cross(), nil, nil, 0}, {cross(), []int{}, nil, 0},
		// What closes is in the way of nothing that opens.
		{cross(), []int{1}, nil, 0}, {cross(), []int{2, 3, 4}, []int{}, 0}, {cross(), []int{2, 3}, []int{3, 4}, 0}, {cross(), []int{2, 3, 4}, []int{3}, 0}, {cross(), []int{2}, []int{3, 4}, 0},
		{apart, []int{1, 3}, []int{1, 4}, 0}, {apart, []int{1, 4}, []int{1}, 0},
		// Of two that close only one is in the way, the slower one or the other.
		{apart, []int{1, 3}, []int{2}, 5}, {apart, []int{1, 4}, []int{2}, 3}, {apart, []int{3}, []int{2}, 5}, {[]impl.Path{car(1, 0, 2), walk(2, 3), car(3, 1, 2)}, []int{1, 2}, []int{3}, 2},
		// A path that conflicts with one that is in both: then the first list is no stage.
		{cross(), []int{1, 2}, []int{2, 3}, 0}, {cross(), []int{1, 2, 3, 4}, []int{2, 3, 4}, 0}, {cross(), []int{2, 3}, []int{1, 2}, 0},
		// A stage that is not one, first or second.
		{cross(), []int{1, 2}, []int{3}, 0}, {cross(), []int{3}, []int{1, 2}, 0}, {cross(), []int{3, 2}, []int{1}, 0}, {cross(), []int{1}, []int{3, 2}, 0}, {cross(), []int{9}, []int{1}, 0}, {cross(), []int{1}, []int{9}, 0},
		{cross(), []int{2, 2}, []int{1}, 0}, {cross(), []int{1}, []int{3, 3}, 0}, {cross(), []int{1, 9}, []int{2}, 0}, {cross(), []int{1}, []int{2, 9}, 0},
		{nil, nil, nil, 0}, {nil, []int{1}, []int{2}, 0}, {[]impl.Path{}, []int{}, []int{1}, 0}, {friends(), []int{3, 4, 5}, []int{6, 11, 19}, 0},
		{rivals(), []int{2}, []int{9}, 2}, {rivals(), []int{10}, []int{20}, 3}, {rivals(), []int{20}, []int{10}, 5},
	}
	for _, c := range cases {
		if got := impl.ClearBetween(c.l, c.a, c.b); got != c.want {
			t.Errorf("ClearBetween(%v, %v, %v) = %d; want %d", c.l, c.a, c.b, got, c.want)
		}
	}
	for _, ids := range oddIds() {
		for _, stage := range [][]int{nil, {1}, {2, 3, 4}, ids} {
			if impl.ClearBetween(cross(), ids, stage) != 0 || impl.ClearBetween(cross(), stage, ids) != 0 {
				t.Errorf("ClearBetween of %v and %v is not 0", ids, stage)
			}
		}
	}
}

// Each two lists of Ids of small crossings, and such as are drawn of great ones.
func TestClearBetweenOfAllStages(t *testing.T) {
	source := rand.New(rand.NewSource(71))
	check := func(l []impl.Path, a []int, b []int) {
		if got, want := impl.ClearBetween(l, a, b), clearSecondsBetween(l, a, b); got != want {
			t.Errorf("ClearBetween(%v, %v, %v) = %d; want %d", l, a, b, got, want)
		}
	}
	for _, l := range stagedCrossings(72, 60) {
		if len(l) <= 5 {
			for _, a := range subsetsOf(l) {
				for _, b := range subsetsOf(l) {
					check(l, a, b)
				}
			}
			continue
		}
		stages := stagesAmong(l)
		for range 300 {
			check(l, stages[source.Intn(len(stages))], stages[source.Intn(len(stages))])
		}
	}
}

// Promise 7: nothing clears longer than the longest.
func TestNothingClearsLongerThanTheLongest(t *testing.T) {
	source := rand.New(rand.NewSource(73))
	for _, l := range stagedCrossings(74, 400) {
		longest, met := impl.LongestClear(l), 0
		for _, p := range l {
			met = max(met, clearSeconds(p))
			if impl.ClearOf(p) > longest {
				t.Errorf("%v: %v clears %d seconds, and the longest is %d", l, p, impl.ClearOf(p), longest)
			}
		}
		if longest != met {
			t.Errorf("LongestClear(%v) = %d; want %d", l, longest, met)
		}
		stages := impl.StagesOf(l)
		stages = append(stages, nil)
		for range 40 {
			a, b := stages[source.Intn(len(stages))], stages[source.Intn(len(stages))]
			if got := impl.ClearBetween(l, a, b); got > longest || got < 0 {
				t.Errorf("ClearBetween(%v, %v, %v) = %d; the longest is %d", l, a, b, got, longest)
			}
		}
	}
}

func TestLongestClear(t *testing.T) {
	cases := []struct {
		l    []impl.Path
		want int
	}{
		{nil, 0}, {[]impl.Path{}, 0}, {cross(), 5}, {cross()[:1], 2}, {cross()[:2], 2}, {cross()[3:], 3}, {[]impl.Path{car(1, 0, 2), bus(2, 0, 2)}, 3}, {[]impl.Path{bus(2, 0, 2), car(4, 0, 2)}, 3},
		{[]impl.Path{walk(1, 0), car(2, 1, 2), bus(3, 2, 1)}, 5}, {[]impl.Path{car(2, 1, 2), bus(3, 2, 1), walk(20, 0)}, 5}, {walks(9, 12), 5},
		// One more than a crossing can have.
		{walks(1, 13), 0}, {[]impl.Path{car(2, 1, 3), car(1, 0, 2)}, 0}, {[]impl.Path{walk(1, 0), walk(1, 1)}, 0}, {[]impl.Path{walk(1, 0), {}}, 0},
	}
	for _, c := range cases {
		if got := impl.LongestClear(c.l); got != c.want {
			t.Errorf("LongestClear(%v) = %d; want %d", c.l, got, c.want)
		}
	}
}

// Where ArePaths is false nothing clears, though its paths do one by one.
func TestClearingOfNoCrossing(t *testing.T) {
	for _, l := range notCrossings() {
		if impl.LongestClear(l) != 0 {
			t.Errorf("LongestClear(%v) = %d", l, impl.LongestClear(l))
		}
		for _, ids := range [][]int{nil, {1}, {2}, {3}, {1, 2}, {2, 3, 4}, {20}} {
			for _, other := range [][]int{nil, {1}, {2}, {3}, {2, 3}} {
				if impl.ClearBetween(l, ids, other) != 0 {
					t.Errorf("ClearBetween(%v, %v, %v) = %d", l, ids, other, impl.ClearBetween(l, ids, other))
				}
			}
		}
	}
}

func TestStaysOpenAndCloses(t *testing.T) {
	low, high := math.MinInt, math.MaxInt
	cases := []struct {
		a, b, stays, closes []int
	}{
		{[]int{2, 3, 4}, []int{4, 2}, []int{2, 4}, []int{3}}, {[]int{1}, []int{1}, []int{1}, nil}, {[]int{1}, []int{2}, nil, []int{1}},
		{nil, nil, nil, nil}, {nil, []int{1}, nil, nil}, {[]int{}, []int{1}, nil, nil}, {[]int{1, 2}, nil, nil, []int{1, 2}}, {[]int{1, 2}, []int{}, nil, []int{1, 2}},
		// The order is that of the first list, whatever it is.
		{[]int{4, 3, 2}, []int{2, 3, 5}, []int{3, 2}, []int{4}}, {[]int{9, 1, 5}, []int{1, 5, 9}, []int{9, 1, 5}, nil}, {[]int{9, 1, 5}, []int{7}, nil, []int{9, 1, 5}},
		// A number that is there twice stays as often as it is in the first list.
		{[]int{2, 2, 3, 3}, []int{3}, []int{3, 3}, []int{2, 2}}, {[]int{2, 3}, []int{3, 3}, []int{3}, []int{2}}, {[]int{3, 2, 3}, []int{3, 3, 3}, []int{3, 3}, []int{2}},
		// The numbers need not be those of paths.
		{[]int{low, -1, 0, 21, high}, []int{0, high, low}, []int{low, 0, high}, []int{-1, 21}}, {[]int{low}, []int{high}, nil, []int{low}}, {[]int{1 << 32}, []int{0}, nil, []int{1 << 32}},
	}
	for _, c := range cases {
		if got := impl.StaysOpen(c.a, c.b); !slices.Equal(got, c.stays) {
			t.Errorf("StaysOpen(%v, %v) = %v; want %v", c.a, c.b, got, c.stays)
		}
		if got := impl.Closes(c.a, c.b); !slices.Equal(got, c.closes) {
			t.Errorf("Closes(%v, %v) = %v; want %v", c.a, c.b, got, c.closes)
		}
	}
}

// drawNumbers draws a list of few numbers, so that many are there twice.
func drawNumbers(source *rand.Rand) []int {
	list := make([]int, source.Intn(7))
	for i := range list {
		list[i] = source.Intn(6) - 1
	}
	return list
}

func TestStaysOpenAndClosesOfDrawnLists(t *testing.T) {
	source := rand.New(rand.NewSource(75))
	for range 3000 {
		a, b := drawNumbers(source), drawNumbers(source)
		in := map[int]bool{}
		for _, n := range b {
			in[n] = true
		}
		stays := slices.DeleteFunc(slices.Clone(a), func(n int) bool { return !in[n] })
		closes := slices.DeleteFunc(slices.Clone(a), func(n int) bool { return in[n] })
		if got := impl.StaysOpen(a, b); !slices.Equal(got, stays) {
			t.Errorf("StaysOpen(%v, %v) = %v; want %v", a, b, got, stays)
		}
		if got := impl.Closes(a, b); !slices.Equal(got, closes) {
			t.Errorf("Closes(%v, %v) = %v; want %v", a, b, got, closes)
		}
	}
}

// Neither a list nor its spare capacity is changed, and what is returned is new, also where it has just the numbers of a list.
func TestClearingLeavesItsArguments(t *testing.T) {
	calls := map[string]func(a []int, b []int) []int{"StaysOpen": impl.StaysOpen, "Closes": impl.Closes}
	for name, call := range calls {
		for _, c := range [][2][]int{{{2, 3, 4}, {4, 2}}, {{1, 2}, {1, 2}}, {{1, 2}, {3}}, {nil, {1}}, {{1}, nil}, {{3, 3}, {3}}} {
			a, wholeA := roomy(c[0], 4, 1, 77)
			b, wholeB := roomy(c[1], 1, 2, 78)
			copyA, copyB := slices.Clone(wholeA), slices.Clone(wholeB)
			first, second := call(a, b), call(a, b)
			want := slices.Clone(second)
			spoil(first)
			if !slices.Equal(wholeA, copyA) || !slices.Equal(wholeB, copyB) || !slices.Equal(second, want) {
				t.Errorf("%s(%v, %v), or a write to its result, changes %v, %v or %v", name, c[0], c[1], wholeA, wholeB, second)
			}
			spoil(a, b)
			if !slices.Equal(second, want) {
				t.Errorf("%s(%v, %v): a write to an argument changes the result %v to %v", name, c[0], c[1], want, second)
			}
		}
	}
	for _, plain := range append(stagedCrossings(76, 30), notCrossings()...) {
		l, whole := roomy(plain, car(5, 0, 1), car(6, 1, 0))
		a, wholeA := roomy([]int{2, 3}, 4, 77)
		b, wholeB := roomy([]int{1}, 2, 78)
		paths := slices.Clone(whole)
		impl.LongestClear(l)
		impl.ClearBetween(l, a, b)
		impl.ClearBetween(l, b, a)
		if !slices.Equal(whole, paths) || !slices.Equal(wholeA, []int{2, 3, 4, 77}) || !slices.Equal(wholeB, []int{1, 2, 78}) {
			t.Errorf("changed: %v to %v, or the stages to %v and %v", paths, whole, wholeA, wholeB)
		}
	}
}
