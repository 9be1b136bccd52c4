package tests

import (
	"math"
	"math/rand"
	"slices"
	"testing"

	"loop.example/g03006/impl"
)

// canCut is the oracle for CanCut of a controller.
func canCut(l []impl.Path, x impl.Control) bool {
	least := 4
	for _, id := range x.Stage {
		if pathOf(l, id).Kind == impl.PtWalk {
			least = 7
		}
	}
	return len(x.Next) == 0 && x.Since >= least
}

// canCome reports whether there is a path with this Id, and it is no walk.
func canCome(l []impl.Path, id int) bool {
	return slices.ContainsFunc(l, func(p impl.Path) bool { return p.Id == id && p.Kind != impl.PtWalk })
}

// cutFor is the oracle for CutFor of a controller.
func cutFor(c steered, id int) (impl.Control, bool) {
	if !canCut(c.l, c.x) || !canCome(c.l, id) || slices.Contains(c.x.Stage, id) {
		return c.x, false
	}
	return changedTo(c.l, c.x, []int{id}), true
}

// stepSiren is the oracle for StepSiren of a controller.
func stepSiren(c steered, id int) impl.Control {
	if x, ok := cutFor(c, id); ok {
		return x
	}
	return ticked(c.x)
}

// sirenWait is the oracle for SirenWait of a controller.
func sirenWait(c steered, id int) int {
	if !canCome(c.l, id) {
		return -1
	}
	wait := 0
	for !slices.Contains(c.x.Stage, id) || len(c.x.Next) > 0 && !slices.Contains(c.x.Next, id) {
		c.x = stepSiren(c, id)
		wait++
	}
	return wait
}

// longestSiren is the oracle for LongestSiren of a list of paths for which ArePaths holds.
func longestSiren(l []impl.Path) int {
	longest := 0
	for _, p := range l {
		longest = max(longest, clearSeconds(p))
	}
	return 8 + 2*longest
}

// twoWalks has walks in two stages that follow each other, so that a siren for the bus 4 can wait for the longest time.
func twoWalks() []impl.Path { return []impl.Path{walk(1, 0), walk(2, 2), car(3, 0, 1), bus(4, 3, 2)} }

// rescued are controllers of crossings of all lengths but 0, and all of some crossings.
func rescued(seed int64, count int) []steered {
	list := someControls(seed, count)
	for _, l := range [][]impl.Path{cross(), keeps(), rivals(), twoWalks()} {
		for _, stage := range stagesAmong(l) {
			for since := range 9 {
				list = append(list, steered{l, opened(since, stage...)})
			}
			for _, next := range stagesAmong(l) {
				for left := range clearSecondsBetween(l, stage, next) {
					list = append(list, steered{l, closing(stage, 7, next, left+1)})
				}
			}
		}
	}
	return slices.DeleteFunc(list, func(c steered) bool { return len(c.x.Stage) == 0 })
}

func TestCanCut(t *testing.T) {
	if impl.SirenCar != 4 || impl.SirenWalk != 7 {
		t.Error(impl.SirenCar, impl.SirenWalk)
	}
	cases := []struct {
		x    impl.Control
		want bool
	}{
		// At SirenCar and at SirenWalk, and one less: a Stage without a walk and with one.
		{opened(4, 1), true}, {opened(3, 1), false}, {opened(0, 1), false}, {opened(4, 2, 4), true}, {opened(3, 2, 4), false}, {opened(4, 4), true}, {opened(3, 4), false}, {opened(7, 2, 3, 4), true}, {opened(6, 2, 3, 4), false}, {opened(4, 2, 3, 4), false}, {opened(7, 3), true}, {opened(6, 3), false}, {opened(1000000, 1), true}, {opened(1000000, 3), true},
		// While it clears.
		{closing([]int{1}, 5, []int{2, 3, 4}, 2), false}, {closing([]int{2, 3, 4}, 1000000, []int{1}, 5), false}, {closing([]int{1}, 1000000, []int{2}, 1), false},
		{impl.Control{}, false}, {opened(9), false}, {opened(9, 1, 2), false}, {opened(9, 9), false}, {opened(1000001, 1), false}, {opened(-1, 1), false}, {opened(math.MaxInt, 1), false}, {impl.Control{Stage: []int{1}, Since: 9, Left: 1}, false},
	}
	for _, c := range cases {
		if got := impl.CanCut(cross(), c.x); got != c.want {
			t.Errorf("CanCut(%v) = %v", c.x, got)
		}
	}
	for _, c := range rescued(172, 300) {
		if got := impl.CanCut(c.l, c.x); got != canCut(c.l, c.x) {
			t.Errorf("CanCut(%v, %v) = %v", c.l, c.x, got)
		}
	}
}

func TestCutFor(t *testing.T) {
	cases := []struct {
		x    impl.Control
		path int
		want impl.Control
		ok   bool
	}{
		{opened(7, 2, 3, 4), 1, closing([]int{2, 3, 4}, 7, []int{1}, 5), true}, {opened(4, 2, 4), 1, closing([]int{2, 4}, 4, []int{1}, 3), true}, {opened(4, 1), 4, closing([]int{1}, 4, []int{4}, 2), true}, {opened(1000000, 1), 2, closing([]int{1}, 1000000, []int{2}, 2), true},
		// Nothing clears.
		{opened(4, 2), 4, opened(0, 4), true}, {opened(7, 3), 2, opened(0, 2), true}, {opened(9, 2, 3), 4, opened(0, 4), true},
		// Too soon.
		{opened(3, 1), 4, opened(3, 1), false}, {opened(6, 2, 3, 4), 1, opened(6, 2, 3, 4), false}, {opened(6, 3), 1, opened(6, 3), false},
		// A path in Stage, a walk, and a path that is not there.
		{opened(9, 2, 3, 4), 2, opened(9, 2, 3, 4), false}, {opened(9, 1), 1, opened(9, 1), false}, {opened(9, 1), 3, opened(9, 1), false}, {opened(9, 2), 3, opened(9, 2), false}, {opened(9, 1), 9, opened(9, 1), false}, {opened(9, 1), 0, opened(9, 1), false}, {opened(9, 1), -1, opened(9, 1), false}, {opened(9, 1), math.MinInt, opened(9, 1), false}, {opened(9, 1), math.MaxInt, opened(9, 1), false}, {opened(9, 1), 1<<32 + 2, opened(9, 1), false},
		// While it clears, towards a Next with the path and without it.
		{closing([]int{1}, 9, []int{2, 3, 4}, 2), 4, closing([]int{1}, 9, []int{2, 3, 4}, 2), false}, {closing([]int{1}, 9, []int{2, 3}, 1), 4, closing([]int{1}, 9, []int{2, 3}, 1), false},
	}
	for _, c := range cases {
		if got, ok := impl.CutFor(cross(), c.x, c.path); ok != c.ok || !sameControl(got, c.want) {
			t.Errorf("CutFor(%v, %d) = %v, %v; want %v, %v", c.x, c.path, got, ok, c.want, c.ok)
		}
	}
	for _, c := range rescued(173, 200) {
		ids := []int{0, -1, 21, math.MinInt, math.MaxInt}
		for _, p := range c.l {
			ids = append(ids, p.Id, p.Id+1)
		}
		for _, id := range ids {
			want, can := cutFor(c, id)
			if got, ok := impl.CutFor(c.l, c.x, id); ok != can || !sameControl(got, want) {
				t.Errorf("CutFor(%v, %v, %d) = %v, %v; want %v, %v", c.l, c.x, id, got, ok, want, can)
			}
			if got := impl.StepSiren(c.l, c.x, id); !sameControl(got, stepSiren(c, id)) {
				t.Errorf("StepSiren(%v, %v, %d) = %v; want %v", c.l, c.x, id, got, stepSiren(c, id))
			}
		}
	}
}

func TestStepSiren(t *testing.T) {
	cases := []struct {
		x    impl.Control
		path int
		want impl.Control
	}{
		{opened(7, 2, 3, 4), 1, closing([]int{2, 3, 4}, 7, []int{1}, 5)}, {opened(6, 2, 3, 4), 1, opened(7, 2, 3, 4)}, {opened(4, 2), 4, opened(0, 4)}, {opened(3, 2), 4, opened(4, 2)},
		// What cannot be cut goes on: for a path in Stage, a walk, or no path, and while it clears.
		{opened(9, 2, 3, 4), 2, opened(10, 2, 3, 4)}, {opened(9, 1), 3, opened(10, 1)}, {opened(9, 1), 9, opened(10, 1)}, {opened(1000000, 1), 0, opened(1000000, 1)}, {opened(9, 1), math.MinInt, opened(10, 1)}, {opened(9, 1), math.MaxInt, opened(10, 1)}, {closing([]int{1}, 9, []int{2, 3, 4}, 2), 1, closing([]int{1}, 9, []int{2, 3, 4}, 1)}, {closing([]int{1}, 9, []int{2, 3, 4}, 1), 1, opened(0, 2, 3, 4)}, {closing([]int{1}, 9, []int{2, 3, 4}, 1), 4, opened(0, 2, 3, 4)},
	}
	for _, c := range cases {
		if got := impl.StepSiren(cross(), c.x, c.path); !sameControl(got, c.want) {
			t.Errorf("StepSiren(%v, %d) = %v; want %v", c.x, c.path, got, c.want)
		}
	}
}

func TestSirenWait(t *testing.T) {
	cases := []struct {
		l    []impl.Path
		x    impl.Control
		path int
		want int
	}{
		{cross(), opened(7, 2, 3, 4), 1, 6}, {cross(), opened(0, 2, 3, 4), 1, 13}, {cross(), opened(6, 2, 3, 4), 1, 7}, {cross(), opened(5, 1), 2, 3}, {cross(), opened(0, 1), 2, 7}, {cross(), opened(0, 2, 4), 1, 8},
		// The path is open already, also while something else clears.
		{cross(), opened(7, 2, 3, 4), 2, 0}, {cross(), opened(0, 1), 1, 0}, {[]impl.Path{car(1, 0, 3), car(2, 0, 2), car(3, 1, 2)}, closing([]int{1, 2}, 9, []int{1, 3}, 2), 1, 0},
		// A cut for which nothing clears.
		{cross(), opened(4, 2), 4, 1}, {cross(), opened(0, 2), 4, 5}, {cross(), opened(0, 3), 4, 8},
		// While it clears, towards a Next with the path and without it, and also if the path itself clears.
		{cross(), closing([]int{1}, 7, []int{2, 3, 4}, 2), 4, 2}, {cross(), closing([]int{1}, 7, []int{2, 3, 4}, 1), 4, 1}, {cross(), closing([]int{1}, 7, []int{2, 3, 4}, 2), 1, 15}, {cross(), closing([]int{2, 3, 4}, 7, []int{1}, 5), 1, 5}, {cross(), closing([]int{2, 3, 4}, 7, []int{1}, 5), 4, 12}, {cross(), closing([]int{1}, 7, []int{3}, 2), 4, 10},
		// A walk, no path, and no controller.
		{cross(), opened(7, 2, 3, 4), 3, -1}, {cross(), opened(7, 1), 3, -1}, {cross(), opened(7, 1), 9, -1}, {cross(), opened(7, 1), 0, -1}, {cross(), opened(7, 1), math.MinInt, -1}, {cross(), opened(7, 1), math.MaxInt, -1}, {cross(), impl.Control{}, 1, -1}, {cross(), opened(-1, 1), 1, -1}, {cross(), opened(1000001, 1), 1, -1}, {cross(), opened(7, 1, 2), 1, -1}, {nil, impl.Control{}, 1, -1}, {nil, opened(7, 1), 1, -1},
		// The longest one.
		{twoWalks(), closing([]int{1}, 7, []int{2, 3}, 5), 4, 18},
	}
	for _, c := range cases {
		if got := impl.SirenWait(c.l, c.x, c.path); got != c.want {
			t.Errorf("SirenWait(%v, %v, %d) = %d; want %d", c.l, c.x, c.path, got, c.want)
		}
	}
}

// Promise 17: help passes within the bound, for each valid controller and path, and on its way the controller stays safe.
func TestHelpPassesWithinTheBound(t *testing.T) {
	longest := 0
	for _, c := range rescued(174, 100) {
		bound := impl.LongestSiren(c.l)
		for i, p := range c.l {
			wait := impl.SirenWait(c.l, c.x, p.Id)
			if wait != sirenWait(c, p.Id) || wait > bound || (wait < 0) != (p.Kind == impl.PtWalk) {
				t.Errorf("SirenWait(%v, %v, %d) = %d; want %d; the bound is %d", c.l, c.x, p.Id, wait, sirenWait(c, p.Id), bound)
			}
			if wait == bound {
				longest++
			}
			x, green := c.x, map[int]int{}
			for second := range wait {
				if wantSafeStep(t, steered{c.l, x}, second, green); impl.LightsOf(c.l, x)[i] == impl.LtGreen {
					t.Errorf("%v, %v: %d is green after %d seconds, and SirenWait is %d", c.l, c.x, p.Id, second, wait)
				}
				x = impl.StepSiren(c.l, x, p.Id)
			}
			if wantSafeStep(t, steered{c.l, x}, max(wait, 0), green); wait >= 0 && impl.LightsOf(c.l, x)[i] != impl.LtGreen {
				t.Errorf("%v, %v: %d is not green after %d seconds", c.l, c.x, p.Id, wait)
			}
		}
	}
	if longest == 0 {
		t.Error("the bound is never reached")
	}
}

func TestLongestSiren(t *testing.T) {
	cases := []struct {
		l    []impl.Path
		want int
	}{
		{nil, 8}, {[]impl.Path{}, 8}, {cross(), 18}, {cross()[:2], 12}, {cross()[3:], 14}, {[]impl.Path{car(1, 0, 1), bus(2, 0, 1)}, 14}, {walks(1, 12), 18}, {walks(1, 13), 8}, {rivals(), 18}, {rivals()[:3], 14},
	}
	for _, c := range cases {
		if got := impl.LongestSiren(c.l); got != c.want {
			t.Errorf("LongestSiren(%v) = %d; want %d", c.l, got, c.want)
		}
	}
	for _, l := range stagedCrossings(175, 200) {
		if got := impl.LongestSiren(l); got != longestSiren(l) {
			t.Errorf("LongestSiren(%v) = %d; want %d", l, got, longestSiren(l))
		}
	}
	for _, l := range notCrossings() {
		if got := impl.LongestSiren(l); got != 8 {
			t.Errorf("LongestSiren(%v) = %d", l, got)
		}
	}
}

// What is no controller hears no siren.
func TestSirensOfNoControl(t *testing.T) {
	for _, c := range notControls() {
		if impl.CanCut(c.l, c.x) {
			t.Errorf("CanCut(%v, %v) is true", c.l, c.x)
		}
		for _, id := range []int{0, 1, 2, 3, 4, 7, 20, math.MinInt, math.MaxInt} {
			got, ok := impl.CutFor(c.l, c.x, id)
			if step := impl.StepSiren(c.l, c.x, id); ok || !sameControl(got, c.x) || !sameControl(step, c.x) || impl.SirenWait(c.l, c.x, id) != -1 {
				t.Errorf("%v, %v: CutFor %d is %v, %v, StepSiren %v, SirenWait %d", c.l, c.x, id, got, ok, step, impl.SirenWait(c.l, c.x, id))
			}
		}
	}
}

func TestSirensAreOnCopies(t *testing.T) {
	source := rand.New(rand.NewSource(176))
	for _, c := range append(someControls(177, 100), notControls()...) {
		id := 1 + source.Intn(20)
		if len(c.l) > 0 {
			id = c.l[source.Intn(len(c.l))].Id
		}
		wantUntouchedControl(t, "a function of sirens", c, func(l []impl.Path, x impl.Control) {
			impl.CanCut(l, x)
			impl.SirenWait(l, x, id)
			impl.LongestSiren(l)
			wantOwnControl(t, "StepSiren", c, func() impl.Control { return impl.StepSiren(l, x, id) })
			wantOwnControl(t, "CutFor", c, func() impl.Control {
				cut, _ := impl.CutFor(l, x, id)
				return cut
			})
		})
	}
}
