package tests

import (
	"math"
	"math/rand"
	"slices"
	"testing"

	"loop.example/g03006/impl"
)

func prio(path int, left int) impl.Prio { return impl.Prio{Path: path, Left: left} }

// favoured is a controller with wants and a priority.
type favoured struct {
	asked
	r impl.Prio
}

func hasBus(l []impl.Path, id int) bool {
	return slices.ContainsFunc(l, func(p impl.Path) bool { return p.Id == id && p.Kind == impl.PtBus })
}

// isPrio is the oracle for IsPrio of a list of paths for which ArePaths holds.
func isPrio(l []impl.Path, r impl.Prio) bool {
	if r.Path == 0 {
		return r.Left == 0
	}
	return hasBus(l, r.Path) && r.Left >= 1 && r.Left <= 20
}

// prioWish is the oracle for PrioWish of what is valid.
func prioWish(l []impl.Path, x impl.Control, r impl.Prio) string {
	in := slices.Contains(x.Stage, r.Path)
	if r.Path != 0 && in && len(x.Next) == 0 {
		return "hold"
	}
	if r.Path != 0 && !in && canEnd(l, x) {
		return "call"
	}
	return ""
}

// stepPrio is the oracle for StepPrio of what is valid.
func stepPrio(c favoured) (impl.Control, []impl.Want, impl.Prio) {
	var x impl.Control
	switch prioWish(c.l, c.x, c.r) {
	case "hold":
		x = ticked(c.x)
	case "call":
		x = changedTo(c.l, c.x, filled(c.l, []int{c.r.Path}))
	default:
		x, _ = stepAsk(c.asked)
	}
	r := impl.Prio{}
	if c.r.Left > 1 {
		r = prio(c.r.Path, c.r.Left-1)
	}
	return x, stillWaiting(c.l, x, c.w), r
}

// someFavoured are controllers with wants and a priority, or none.
func someFavoured(seed int64, count int) []favoured {
	source := rand.New(rand.NewSource(seed))
	var list []favoured
	for _, c := range someAsked(seed, count) {
		list = append(list, favoured{c, impl.Prio{}})
		for _, p := range c.l {
			if p.Kind == impl.PtBus {
				list = append(list, favoured{c, prio(p.Id, []int{1, 2, 20, 1 + source.Intn(20)}[source.Intn(4)])})
			}
		}
	}
	return list
}

// badPrios are priorities that are not valid for cross, of which the path 4 is that of a bus.
func badPrios() []impl.Prio {
	return []impl.Prio{
		prio(4, 0), prio(4, 21), prio(4, -1), prio(4, math.MinInt), prio(4, math.MaxInt), prio(4, 1<<32+1), prio(0, 1), prio(0, 20), prio(0, -1), prio(0, math.MaxInt), prio(0, math.MinInt),
		prio(1, 1), prio(1, 20), prio(1, 0), prio(2, 5), prio(3, 1), prio(3, 0), prio(9, 5), prio(5, 1), prio(-4, 5), prio(-1, 0), prio(1<<32+4, 5), prio(math.MinInt, 5), prio(math.MaxInt, 5), prio(math.MinInt, math.MinInt), prio(math.MaxInt, math.MaxInt),
	}
}

// notFavoured are controllers with wants and a priority of which one is not valid.
func notFavoured() []favoured {
	var list []favoured
	for _, r := range badPrios() {
		for _, x := range []impl.Control{opened(60, 1), opened(70, 2, 3, 4), closing([]int{1}, 5, []int{2, 3, 4}, 1), {}} {
			list = append(list, favoured{asked{steered{cross(), x}, []impl.Want{want(1, 7), want(2, 3)}}, r})
		}
	}
	for i, c := range notAsked() {
		list = append(list, favoured{c, []impl.Prio{{}, prio(4, 20), prio(4, 1)}[i%3]})
	}
	return list
}

func TestIsPrio(t *testing.T) {
	if impl.MaxPrio != 20 {
		t.Error(impl.MaxPrio)
	}
	for _, r := range []impl.Prio{{}, prio(4, 1), prio(4, 2), prio(4, 19), prio(4, 20)} {
		if !impl.IsPrio(cross(), r) {
			t.Errorf("IsPrio(%v) is false", r)
		}
	}
	for _, r := range badPrios() {
		if impl.IsPrio(cross(), r) || isPrio(cross(), r) {
			t.Errorf("IsPrio(%v) is true", r)
		}
	}
	for _, l := range stagedCrossings(165, 100) {
		for _, id := range around(0, 20) {
			for _, left := range []int{0, 1, 20, 21, -1} {
				if got := impl.IsPrio(l, prio(id, left)); got != isPrio(l, prio(id, left)) {
					t.Errorf("IsPrio(%v, %v) = %v", l, prio(id, left), got)
				}
			}
		}
		for _, left := range around(0, 20) {
			for _, p := range append(slices.Clone(l), impl.Path{}) {
				if got := impl.IsPrio(l, prio(p.Id, left)); got != isPrio(l, prio(p.Id, left)) {
					t.Errorf("IsPrio(%v, %v) = %v", l, prio(p.Id, left), got)
				}
			}
		}
	}
	// Without paths there is no priority, and where ArePaths is false not even none is valid.
	if !impl.IsPrio(nil, impl.Prio{}) || impl.IsPrio(nil, prio(4, 5)) {
		t.Error("no paths")
	}
	for _, l := range append(notCrossings(), []impl.Path{bus(2, 0, 1), bus(1, 0, 1)}, []impl.Path{path(0, impl.PtBus, 0, 1)}) {
		for _, r := range []impl.Prio{{}, prio(4, 5), prio(l[0].Id, 5), prio(2, 5), prio(1, 1)} {
			if impl.IsPrio(l, r) {
				t.Errorf("IsPrio(%v, %v) is true", l, r)
			}
		}
	}
}

func TestAskPrio(t *testing.T) {
	cases := []struct {
		r    impl.Prio
		path int
		want impl.Prio
		ok   bool
	}{
		{impl.Prio{}, 4, prio(4, 20), true},
		// A car, a walk, and a path that is not there.
		{impl.Prio{}, 1, impl.Prio{}, false}, {impl.Prio{}, 2, impl.Prio{}, false}, {impl.Prio{}, 3, impl.Prio{}, false}, {impl.Prio{}, 9, impl.Prio{}, false}, {impl.Prio{}, 0, impl.Prio{}, false}, {impl.Prio{}, -4, impl.Prio{}, false}, {impl.Prio{}, 1<<32 + 4, impl.Prio{}, false}, {impl.Prio{}, math.MinInt, impl.Prio{}, false}, {impl.Prio{}, math.MaxInt, impl.Prio{}, false},
		// A priority that is there already.
		{prio(4, 20), 4, prio(4, 20), false}, {prio(4, 1), 4, prio(4, 1), false}, {prio(4, 7), 1, prio(4, 7), false}, {prio(4, 7), 9, prio(4, 7), false},
	}
	for _, r := range badPrios() {
		for _, id := range []int{4, 1, 9, r.Path} {
			cases = append(cases, struct {
				r    impl.Prio
				path int
				want impl.Prio
				ok   bool
			}{r, id, r, false})
		}
	}
	for _, c := range cases {
		if got, ok := impl.AskPrio(cross(), c.r, c.path); ok != c.ok || got != c.want {
			t.Errorf("AskPrio(%v, %d) = %v, %v; want %v, %v", c.r, c.path, got, ok, c.want, c.ok)
		}
	}
	for _, l := range stagedCrossings(166, 150) {
		for _, r := range append(badPrios()[:4], impl.Prio{}, prio(20, 3), prio(7, 3)) {
			for _, id := range around(0, 20) {
				want, can := r, r == impl.Prio{} && hasBus(l, id)
				if can {
					want = prio(id, 20)
				}
				if got, ok := impl.AskPrio(l, r, id); ok != can || got != want || ok && !impl.IsPrio(l, got) {
					t.Errorf("AskPrio(%v, %v, %d) = %v, %v; want %v, %v", l, r, id, got, ok, want, can)
				}
			}
		}
	}
	for _, l := range append(notCrossings(), []impl.Path{bus(2, 0, 1), bus(1, 0, 1)}) {
		for _, id := range []int{1, 2, 4, l[0].Id} {
			if got, ok := impl.AskPrio(l, impl.Prio{}, id); ok || got != (impl.Prio{}) {
				t.Errorf("AskPrio(%v, none, %d) = %v, %v", l, id, got, ok)
			}
		}
	}
}

func TestPrioWish(t *testing.T) {
	buses := []impl.Path{bus(1, 0, 2), bus(2, 1, 3), walk(3, 0)}
	// Here the bus goes with each of the cars.
	stays := []impl.Path{bus(1, 0, 3), car(2, 0, 2), car(3, 1, 2)}
	if !isControl(stays, closing([]int{1, 2}, 9, []int{1, 3}, 1)) {
		t.Fatal(stays)
	}
	cases := []struct {
		l    []impl.Path
		x    impl.Control
		r    impl.Prio
		want string
	}{
		{cross(), opened(5, 1), prio(4, 20), "call"}, {cross(), opened(60, 1), prio(4, 1), "call"}, {cross(), opened(5, 2), prio(4, 20), "call"}, {cross(), opened(7, 2, 3), prio(4, 20), "call"}, {cross(), opened(70, 2, 3, 4), prio(4, 20), "hold"}, {cross(), opened(0, 4), prio(4, 1), "hold"}, {cross(), opened(1000000, 2, 4), prio(4, 7), "hold"},
		// A stage that cannot end yet.
		{cross(), opened(4, 1), prio(4, 20), ""}, {cross(), opened(0, 1), prio(4, 20), ""}, {cross(), opened(6, 2, 3), prio(4, 20), ""}, {cross(), opened(4, 2), prio(4, 20), ""},
		// While it clears: with the bus in Stage, in Next, in both, or in none.
		{cross(), closing([]int{2, 3, 4}, 70, []int{1}, 5), prio(4, 20), ""}, {cross(), closing([]int{1}, 5, []int{2, 3, 4}, 1), prio(4, 20), ""}, {cross(), closing([]int{1}, 5, []int{2, 3}, 1), prio(4, 20), ""}, {stays, closing([]int{1, 2}, 9, []int{1, 3}, 1), prio(1, 20), ""}, {stays, opened(0, 1, 3), prio(1, 20), "hold"},
		// No priority.
		{cross(), opened(5, 1), impl.Prio{}, ""}, {cross(), opened(70, 2, 3, 4), impl.Prio{}, ""}, {cross(), closing([]int{1}, 5, []int{2, 3, 4}, 1), impl.Prio{}, ""},
		{buses, opened(5, 1), prio(1, 1), "hold"}, {buses, opened(5, 1), prio(2, 1), "call"}, {buses, opened(7, 2, 3), prio(1, 1), "call"}, {buses, opened(6, 2, 3), prio(1, 1), ""}, {buses, opened(0, 2, 3), prio(2, 1), "hold"},
	}
	for _, c := range cases {
		if got := impl.PrioWish(c.l, c.x, c.r); got != c.want {
			t.Errorf("PrioWish(%v, %v, %v) = %q; want %q", c.l, c.x, c.r, got, c.want)
		}
	}
	for _, c := range someFavoured(167, 300) {
		if got := impl.PrioWish(c.l, c.x, c.r); got != prioWish(c.l, c.x, c.r) {
			t.Errorf("PrioWish(%v, %v, %v) = %q", c.l, c.x, c.r, got)
		}
	}
	for _, r := range badPrios() {
		for _, x := range []impl.Control{opened(60, 1), opened(70, 2, 3, 4), opened(60, 2)} {
			if got := impl.PrioWish(cross(), x, r); got != "" {
				t.Errorf("PrioWish(%v, %v) = %q", x, r, got)
			}
		}
	}
	for _, c := range notControls() {
		for _, r := range []impl.Prio{{}, prio(4, 20), prio(1, 20), prio(2, 1)} {
			if got := impl.PrioWish(c.l, c.x, r); got != "" {
				t.Errorf("PrioWish(%v, %v, %v) = %q", c.l, c.x, r, got)
			}
		}
	}
}

func TestStepPrio(t *testing.T) {
	one := []impl.Want{want(1, 80)}
	two := []impl.Want{want(2, 3), want(4, 9)}
	cases := []struct {
		x         impl.Control
		w         []impl.Want
		r         impl.Prio
		want      impl.Control
		left      []impl.Want
		wantPrior impl.Prio
	}{
		// It holds, also a stage that has reached MaxGreen and must change.
		{opened(70, 2, 3, 4), one, prio(4, 20), opened(71, 2, 3, 4), []impl.Want{want(1, 81)}, prio(4, 19)}, {opened(60, 2, 4), one, prio(4, 2), opened(61, 2, 4), []impl.Want{want(1, 81)}, prio(4, 1)}, {opened(9, 2, 3, 4), append(slices.Clone(one), two...), prio(4, 5), opened(10, 2, 3, 4), []impl.Want{want(1, 81)}, prio(4, 4)}, {opened(1000000, 4), nil, prio(4, 20), opened(1000000, 4), nil, prio(4, 19)}, {opened(9, 2, 4), []impl.Want{want(3, 7)}, prio(4, 20), opened(10, 2, 4), []impl.Want{want(3, 8)}, prio(4, 19)},
		// It calls, whatever others want, and whoever waits for what is open.
		{opened(5, 1), one, prio(4, 20), closing([]int{1}, 5, []int{2, 3, 4}, 2), []impl.Want{want(1, 81)}, prio(4, 19)}, {opened(5, 1), nil, prio(4, 20), closing([]int{1}, 5, []int{2, 3, 4}, 2), nil, prio(4, 19)}, {opened(5, 2), one, prio(4, 20), opened(0, 2, 3, 4), []impl.Want{want(1, 81)}, prio(4, 19)}, {opened(7, 2, 3), append(slices.Clone(one), two...), prio(4, 3), opened(0, 2, 3, 4), []impl.Want{want(1, 81)}, prio(4, 2)},
		// It does neither: the stage cannot end yet, or clears.
		{opened(4, 1), two, prio(4, 20), opened(5, 1), []impl.Want{want(2, 4), want(4, 10)}, prio(4, 19)}, {closing([]int{2, 3, 4}, 9, []int{1}, 3), two, prio(4, 20), closing([]int{2, 3, 4}, 9, []int{1}, 2), []impl.Want{want(2, 4), want(4, 10)}, prio(4, 19)}, {closing([]int{1}, 9, []int{2, 3, 4}, 1), append(slices.Clone(one), two...), prio(4, 20), opened(0, 2, 3, 4), []impl.Want{want(1, 81)}, prio(4, 19)},
		// At its last second: it holds, it calls, and it does neither.
		{opened(70, 2, 3, 4), one, prio(4, 1), opened(71, 2, 3, 4), []impl.Want{want(1, 81)}, impl.Prio{}}, {opened(5, 1), nil, prio(4, 1), closing([]int{1}, 5, []int{2, 3, 4}, 2), nil, impl.Prio{}}, {opened(4, 1), two, prio(4, 1), opened(5, 1), []impl.Want{want(2, 4), want(4, 10)}, impl.Prio{}}, {closing([]int{1}, 9, []int{2, 3, 4}, 1), two, prio(4, 1), opened(0, 2, 3, 4), nil, impl.Prio{}},
		// No priority: the stage is asked for.
		{opened(70, 2, 3, 4), one, impl.Prio{}, closing([]int{2, 3, 4}, 70, []int{1}, 5), []impl.Want{want(1, 81)}, impl.Prio{}}, {opened(9, 1), nil, impl.Prio{}, opened(10, 1), nil, impl.Prio{}}, {opened(5, 1), two, impl.Prio{}, closing([]int{1}, 5, []int{2, 3, 4}, 2), []impl.Want{want(2, 4), want(4, 10)}, impl.Prio{}}, {opened(5, 1), append(slices.Clone(one), two...), impl.Prio{}, opened(6, 1), []impl.Want{want(2, 4), want(4, 10)}, impl.Prio{}},
		{opened(0, 2, 4), []impl.Want{want(1, 100000), want(3, 99999)}, prio(4, 20), opened(1, 2, 4), []impl.Want{want(1, 100000), want(3, 100000)}, prio(4, 19)},
	}
	for _, c := range cases {
		if got, left, r := impl.StepPrio(cross(), c.x, c.w, c.r); !sameControl(got, c.want) || !slices.Equal(left, c.left) || r != c.wantPrior {
			t.Errorf("StepPrio(%v, %v, %v) = %v, %v, %v; want %v, %v, %v", c.x, c.w, c.r, got, left, r, c.want, c.left, c.wantPrior)
		}
	}
	for _, c := range someFavoured(168, 200) {
		for range 4 {
			want, waiting, rest := stepPrio(c)
			got, left, r := impl.StepPrio(c.l, c.x, c.w, c.r)
			if !sameControl(got, want) || !slices.Equal(left, waiting) || r != rest {
				t.Errorf("StepPrio(%v, %v, %v, %v) = %v, %v, %v; want %v, %v, %v", c.l, c.x, c.w, c.r, got, left, r, want, waiting, rest)
			}
			c.x, c.w, c.r = want, waiting, rest
		}
	}
}

// A controller, wants or a priority that are not valid change nothing.
func TestNotFavoured(t *testing.T) {
	for _, c := range notFavoured() {
		if x, w, r := impl.StepPrio(c.l, c.x, c.w, c.r); !sameControl(x, c.x) || !slices.Equal(w, c.w) || r != c.r {
			t.Errorf("StepPrio(%v, %v, %v, %v) = %v, %v, %v", c.l, c.x, c.w, c.r, x, w, r)
		}
	}
}

func TestPrioEnds(t *testing.T) {
	cases := []struct {
		r    impl.Prio
		want int
	}{
		{impl.Prio{}, 0}, {prio(4, 20), 20}, {prio(4, 1), 1}, {prio(20, 7), 7},
		// A Path of 0 with any Left.
		{prio(0, 3), 0}, {prio(0, -3), 0}, {prio(0, math.MinInt), 0}, {prio(0, math.MaxInt), 0},
		// A path with any Left.
		{prio(4, 0), 0}, {prio(4, 21), 21}, {prio(4, -3), -3}, {prio(4, math.MinInt), math.MinInt}, {prio(4, math.MaxInt), math.MaxInt}, {prio(1, 5), 5}, {prio(99, 5), 5}, {prio(math.MaxInt, 5), 5},
	}
	for _, c := range cases {
		if got := impl.PrioEnds(c.r); got != c.want {
			t.Errorf("PrioEnds(%v) = %d; want %d", c.r, got, c.want)
		}
	}
}

// Promise 16: a priority ends behind just as many seconds as PrioEnds says, whatever the controller does meanwhile, and till
// then the controller stays safe.
func TestAPriorityEnds(t *testing.T) {
	source := rand.New(rand.NewSource(169))
	ended, held := 0, 0
	for _, c := range someFavoured(170, 60) {
		if c.r.Path == 0 {
			continue
		}
		green := map[int]int{}
		for second := range 60 {
			if source.Intn(4) == 0 {
				c.w, _ = impl.AddWant(c.l, c.w, c.l[source.Intn(len(c.l))].Id)
			}
			if impl.PrioWish(c.l, c.x, c.r) == "hold" && impl.MustChange(c.l, c.x, c.w) {
				held++
			}
			left := impl.PrioEnds(c.r)
			x, w, r := impl.StepPrio(c.l, c.x, c.w, c.r)
			wantSafeStep(t, steered{c.l, x}, second, green)
			if !impl.AreWants(c.l, w) || !impl.IsPrio(c.l, r) || impl.PrioEnds(r) != max(left-1, 0) || r.Path != 0 && r.Path != c.r.Path || (r == impl.Prio{}) != (left <= 1) {
				t.Fatalf("StepPrio(%v, %v, %v, %v) = %v, %v, %v", c.l, c.x, c.w, c.r, x, w, r)
			}
			if left == 1 {
				ended++
			}
			c.x, c.w, c.r = x, w, r
		}
		if c.r != (impl.Prio{}) {
			t.Errorf("%v: %v does not end", c.l, c.r)
		}
	}
	if ended < 100 || held < 20 {
		t.Error(ended, held)
	}
}

// A stage that is held beyond its time ends with the priority.
func TestTheOthersGoOnBehindABus(t *testing.T) {
	x, w, r := opened(58, 2, 3, 4), []impl.Want{want(1, 0)}, prio(4, 20)
	for left := 20; left > 0; left-- {
		if impl.PrioEnds(r) != left || !slices.Equal(impl.LightsOf(cross(), x), []int{0, 1, 1, 1}) {
			t.Fatalf("%v, %v: %d seconds should be left", x, r, left)
		}
		x, w, r = impl.StepPrio(cross(), x, w, r)
	}
	if r != (impl.Prio{}) || !sameControl(x, opened(78, 2, 3, 4)) || !slices.Equal(w, []impl.Want{want(1, 20)}) {
		t.Errorf("behind the priority there are %v, %v, %v", x, w, r)
	}
	if x, _, _ = impl.StepPrio(cross(), x, w, r); !sameControl(x, closing([]int{2, 3, 4}, 78, []int{1}, 5)) {
		t.Errorf("the stage does not end: %v", x)
	}
}

func TestPrioritiesAreOnCopies(t *testing.T) {
	for _, c := range append(someFavoured(171, 30), notFavoured()...) {
		w, whole := roomy(c.w, want(3, 7), want(77, 77))
		wants := slices.Clone(whole)
		wantUntouchedControl(t, "a function of priorities", c.steered, func(l []impl.Path, x impl.Control) {
			impl.IsPrio(l, c.r)
			impl.AskPrio(l, c.r, 4)
			impl.PrioWish(l, x, c.r)
			wantOwnControl(t, "StepPrio", c.steered, func() impl.Control {
				after, _, _ := impl.StepPrio(l, x, w, c.r)
				return after
			})
			wantOwnWants(t, "StepPrio", func() []impl.Want {
				_, left, _ := impl.StepPrio(l, x, w, c.r)
				return left
			})
		})
		if !slices.Equal(whole, wants) {
			t.Errorf("StepPrio(%v, %v, %v, %v), or a write to its result, changes %v to %v", c.l, c.x, c.w, c.r, wants, whole)
		}
	}
}
