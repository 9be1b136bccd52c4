package tests

import (
	"math"
	"math/rand"
	"slices"
	"testing"

	"loop.example/g03006/impl"
)

// opened is a controller whose stage is open, and closing one whose stage clears for the next one.
func opened(since int, ids ...int) impl.Control { return impl.Control{Stage: ids, Since: since} }

func closing(stage []int, since int, next []int, left int) impl.Control {
	return impl.Control{Stage: stage, Since: since, Next: next, Left: left}
}

// steered is a crossing with a controller.
type steered struct {
	l []impl.Path
	x impl.Control
}

// keeps is a crossing in which the walk 1 is in all stages that are full.
func keeps() []impl.Path { return []impl.Path{walk(1, 3), car(2, 0, 2), car(3, 1, 2)} }

// isControl is the oracle for IsControl of a list of paths for which ArePaths holds.
func isControl(l []impl.Path, x impl.Control) bool {
	if len(x.Stage) == 0 || !areTogether(l, x.Stage) || !areTogether(l, x.Next) || x.Since < 0 || x.Since > 1000000 {
		return false
	}
	if len(x.Next) == 0 {
		return x.Left == 0
	}
	return x.Left >= 1 && x.Left <= clearSecondsBetween(l, x.Stage, x.Next)
}

// lightsOf is the oracle for LightsOf of a controller.
func lightsOf(l []impl.Path, x impl.Control) []int {
	lights := make([]int, len(l))
	for i, p := range l {
		if slices.Contains(x.Stage, p.Id) {
			lights[i] = 2
			if len(x.Next) == 0 || slices.Contains(x.Next, p.Id) {
				lights[i] = 1
			}
		}
	}
	return lights
}

// canEnd is the oracle for CanEnd of a controller.
func canEnd(l []impl.Path, x impl.Control) bool {
	return len(x.Next) == 0 && x.Since >= leastGreen(l, x.Stage)
}

// changedTo is the oracle for a controller that ends its stage for another one.
func changedTo(l []impl.Path, x impl.Control, stage []int) impl.Control {
	left := clearSecondsBetween(l, x.Stage, stage)
	if left == 0 {
		return opened(0, stage...)
	}
	return closing(x.Stage, x.Since, stage, left)
}

// ticked is the oracle for TickControl of a controller.
func ticked(x impl.Control) impl.Control {
	switch {
	case len(x.Next) == 0:
		x.Since = min(x.Since+1, 1000000)
	case x.Left == 1:
		return opened(0, x.Next...)
	default:
		x.Left--
	}
	return x
}

// sameControl is the oracle for EqualControls.
func sameControl(a impl.Control, b impl.Control) bool {
	return slices.Equal(a.Stage, b.Stage) && a.Since == b.Since && slices.Equal(a.Next, b.Next) && a.Left == b.Left
}

// drawControl draws a controller of a list of paths that is not empty.
func drawControl(source *rand.Rand, l []impl.Path) impl.Control {
	anyStage := func() []int { return drawStage(source, l, l[source.Intn(len(l))].Id) }
	x := opened([]int{0, 1, 3, 4, 5, 6, 7, 8, 59, 60, 61, 999999, 1000000}[source.Intn(13)], anyStage()...)
	if next := anyStage(); source.Intn(2) == 0 {
		if longest := clearSecondsBetween(l, x.Stage, next); longest > 0 {
			x.Next, x.Left = next, 1+source.Intn(longest)
		}
	}
	return x
}

// knownControls are controllers of crossings that the tests know.
func knownControls() []steered {
	list := []steered{
		{cross(), closing([]int{1}, 5, []int{2, 3, 4}, 2)}, {cross(), closing([]int{1}, 5, []int{2, 3, 4}, 1)}, {cross(), closing([]int{1}, 0, []int{2}, 1)}, {cross(), closing([]int{2, 3, 4}, 7, []int{1}, 5)}, {cross(), closing([]int{2, 3, 4}, 1000000, []int{1}, 1)}, {cross(), closing([]int{2, 4}, 9, []int{1}, 3)},
		// The path 1 is in both stages.
		{keeps(), closing([]int{1, 2}, 7, []int{1, 3}, 2)}, {keeps(), closing([]int{1, 3}, 7, []int{1, 2}, 1)}, {keeps(), closing([]int{1, 2}, 7, []int{3}, 2)}, {keeps(), closing([]int{2}, 7, []int{1, 3}, 2)},
	}
	for _, since := range []int{0, 1, 3, 4, 5, 6, 7, 8, 59, 60, 61, 999999, 1000000} {
		list = append(list, steered{cross(), opened(since, 1)}, steered{cross(), opened(since, 2, 3, 4)}, steered{cross(), opened(since, 2, 4)}, steered{cross(), opened(since, 3)}, steered{friends(), opened(since, 3, 4, 5, 6, 11, 19)}, steered{keeps(), opened(since, 1)})
	}
	return list
}

// someControls are controllers, open and clearing, of crossings of all lengths but 0.
func someControls(seed int64, count int) []steered {
	source := rand.New(rand.NewSource(seed))
	list := knownControls()
	for _, l := range stagedCrossings(seed, count) {
		for range 3 {
			if len(l) > 0 {
				list = append(list, steered{l, drawControl(source, l)})
			}
		}
	}
	return list
}

// brokenControls are controllers that differ from a valid one in one thing, and some of them are valid still.
func brokenControls(c steered) []impl.Control {
	list := []impl.Control{{}}
	with := func(change func(x *impl.Control)) {
		x := c.x
		change(&x)
		list = append(list, x)
	}
	for _, n := range append(around(0, 6), 60, 999999, 1000000, 1000001) {
		with(func(x *impl.Control) { x.Since = n })
		with(func(x *impl.Control) { x.Left = n })
	}
	stages := append(oddIds(), nil, []int{}, c.x.Stage, c.x.Next, []int{math.MinInt, 1}, []int{1, math.MaxInt})
	for _, one := range c.l {
		stages = append(stages, []int{one.Id}, put(c.x.Stage, one.Id), put(c.x.Next, one.Id), append(slices.Clone(c.x.Stage), one.Id))
	}
	for _, stage := range stages {
		with(func(x *impl.Control) { x.Stage = stage })
		with(func(x *impl.Control) { x.Next = stage })
		with(func(x *impl.Control) { x.Next, x.Left = stage, 1 })
		with(func(x *impl.Control) { x.Next, x.Left = stage, clearSecondsBetween(c.l, x.Stage, stage) })
		with(func(x *impl.Control) { x.Next, x.Left = stage, clearSecondsBetween(c.l, x.Stage, stage)+1 })
		with(func(x *impl.Control) { x.Next, x.Left = nil, 0; x.Stage = stage })
	}
	return list
}

// notControls are controllers for which IsControl is false, also because ArePaths is.
func notControls() []steered {
	var list []steered
	for _, c := range append(knownControls()[:14], steered{friends(), opened(9, 4, 5)}) {
		for _, x := range brokenControls(c) {
			if !isControl(c.l, x) {
				list = append(list, steered{c.l, x})
			}
		}
		list = append(list, steered{nil, c.x}, steered{c.l[:1], opened(9, 4)})
	}
	for _, l := range notCrossings() {
		list = append(list, steered{l, impl.Control{}}, steered{l, opened(9, 1)}, steered{l, opened(9, l[0].Id)}, steered{l, opened(9, 2)}, steered{l, closing([]int{1}, 5, []int{2}, 1)})
	}
	return list
}

func TestIsControl(t *testing.T) {
	cases := []struct {
		l    []impl.Path
		x    impl.Control
		want bool
	}{
		// Since at its limits.
		{cross(), opened(0, 1), true}, {cross(), opened(-1, 1), false}, {cross(), opened(1000000, 1), true}, {cross(), opened(1000001, 1), false}, {cross(), opened(math.MinInt, 1), false}, {cross(), opened(math.MaxInt, 1), false},
		// Left with an empty Next.
		{cross(), impl.Control{Stage: []int{1}, Next: []int{}}, true}, {cross(), impl.Control{Stage: []int{1}, Left: 1}, false}, {cross(), impl.Control{Stage: []int{1}, Next: []int{}, Left: -1}, false}, {cross(), impl.Control{Stage: []int{1}, Left: math.MinInt}, false},
		// Left with another one: 0, 1, ClearBetween and one more.
		{cross(), closing([]int{1}, 5, []int{2}, 0), false}, {cross(), closing([]int{1}, 5, []int{2}, 1), true}, {cross(), closing([]int{1}, 5, []int{2}, 2), true}, {cross(), closing([]int{1}, 5, []int{2}, 3), false}, {cross(), closing([]int{1}, 5, []int{2}, -1), false}, {cross(), closing([]int{1}, 5, []int{2}, math.MaxInt), false}, {cross(), closing([]int{1}, 5, []int{2}, math.MinInt), false},
		{cross(), closing([]int{2, 3, 4}, 5, []int{1}, 5), true}, {cross(), closing([]int{2, 3, 4}, 5, []int{1}, 6), false}, {cross(), closing([]int{2, 4}, 5, []int{1}, 3), true}, {cross(), closing([]int{2, 4}, 5, []int{1}, 4), false},
		// An empty Stage, a Stage or a Next that is no stage.
		{cross(), impl.Control{}, false}, {cross(), opened(5), false}, {cross(), closing([]int{}, 5, []int{1}, 1), false}, {nil, impl.Control{}, false}, {nil, opened(5, 1), false}, {cross(), opened(5, 1, 2), false}, {cross(), opened(5, 4, 2), false}, {cross(), opened(5, 1, 1), false}, {cross(), opened(5, 9), false}, {cross(), opened(5, 2, 9), false}, {cross(), opened(5, 0, 2), false},
		{cross(), closing([]int{1}, 5, []int{9}, 1), false}, {cross(), closing([]int{1}, 5, []int{1, 2}, 1), false}, {cross(), closing([]int{1}, 5, []int{3, 2}, 1), false}, {cross(), closing([]int{1}, 5, []int{2, 2}, 1), false}, {cross(), closing([]int{1}, 5, []int{0}, 1), false},
		// A Next for which nothing clears: the same, less, and more that goes together.
		{cross(), closing([]int{1}, 5, []int{1}, 1), false}, {cross(), closing([]int{1}, 5, []int{1}, 0), false}, {cross(), closing([]int{2, 3, 4}, 5, []int{2, 4}, 1), false}, {cross(), closing([]int{2}, 5, []int{2, 3}, 1), false}, {cross(), closing([]int{2}, 5, []int{3}, 1), false}, {cross(), closing([]int{2}, 5, []int{3}, 0), false},
		{keeps(), closing([]int{1, 2}, 7, []int{1, 3}, 2), true}, {keeps(), closing([]int{1, 2}, 7, []int{1, 3}, 3), false},
	}
	for _, c := range cases {
		if got := impl.IsControl(c.l, c.x); got != c.want || got != isControl(c.l, c.x) {
			t.Errorf("IsControl(%v, %v) = %v", c.l, c.x, got)
		}
	}
	for _, c := range someControls(142, 60) {
		if !impl.IsControl(c.l, c.x) {
			t.Errorf("IsControl(%v, %v) is false", c.l, c.x)
		}
		for _, x := range brokenControls(c) {
			if got := impl.IsControl(c.l, x); got != isControl(c.l, x) {
				t.Errorf("IsControl(%v, %v) = %v", c.l, x, got)
			}
		}
	}
}

func TestLightsOf(t *testing.T) {
	cases := []struct {
		l    []impl.Path
		x    impl.Control
		want []int
	}{
		{cross(), opened(0, 1), []int{1, 0, 0, 0}}, {cross(), opened(1000000, 2, 3, 4), []int{0, 1, 1, 1}}, {cross(), opened(3, 2, 4), []int{0, 1, 0, 1}}, {cross(), closing([]int{1}, 5, []int{2, 3, 4}, 2), []int{2, 0, 0, 0}}, {cross(), closing([]int{2, 3, 4}, 5, []int{1}, 1), []int{0, 2, 2, 2}},
		// A path in both stages stays green.
		{keeps(), closing([]int{1, 2}, 7, []int{1, 3}, 2), []int{1, 2, 0}}, {keeps(), closing([]int{1, 2}, 7, []int{1, 3}, 1), []int{1, 2, 0}}, {keeps(), closing([]int{1, 2}, 7, []int{3}, 1), []int{2, 2, 0}}, {keeps(), closing([]int{2}, 7, []int{1, 3}, 1), []int{0, 2, 0}},
	}
	for _, c := range cases {
		if got := impl.LightsOf(c.l, c.x); !slices.Equal(got, c.want) {
			t.Errorf("LightsOf(%v, %v) = %v; want %v", c.l, c.x, got, c.want)
		}
	}
	for _, c := range someControls(143, 300) {
		if got := impl.LightsOf(c.l, c.x); !slices.Equal(got, lightsOf(c.l, c.x)) {
			t.Errorf("LightsOf(%v, %v) = %v", c.l, c.x, got)
		}
	}
}

func TestCanEnd(t *testing.T) {
	cases := []struct {
		x    impl.Control
		want bool
	}{
		// At LeastGreen and one less, with a walk and without.
		{opened(5, 1), true}, {opened(4, 1), false}, {opened(0, 1), false}, {opened(7, 2, 3, 4), true}, {opened(6, 2, 3, 4), false}, {opened(5, 2, 3, 4), false}, {opened(5, 2, 4), true}, {opened(4, 2, 4), false}, {opened(7, 3), true}, {opened(6, 3), false}, {opened(1000000, 3), true}, {opened(1000001, 3), false},
		// While it clears.
		{closing([]int{1}, 5, []int{2, 3, 4}, 2), false}, {closing([]int{1}, 1000000, []int{2, 3, 4}, 1), false}, {opened(9), false}, {opened(9, 1, 2), false}, {opened(-1, 1), false}, {impl.Control{Stage: []int{1}, Since: 9, Left: 1}, false},
	}
	for _, c := range cases {
		if got := impl.CanEnd(cross(), c.x); got != c.want {
			t.Errorf("CanEnd(%v) = %v", c.x, got)
		}
	}
	for _, c := range someControls(144, 300) {
		for since := range 10 {
			x := c.x
			x.Since = since
			if got := impl.CanEnd(c.l, x); got != canEnd(c.l, x) {
				t.Errorf("CanEnd(%v, %v) = %v", c.l, x, got)
			}
		}
	}
}

func TestAskStage(t *testing.T) {
	cases := []struct {
		l     []impl.Path
		x     impl.Control
		stage []int
		want  impl.Control
		ok    bool
	}{
		// It clears first: for the slowest one that closes.
		{cross(), opened(5, 1), []int{2, 3, 4}, closing([]int{1}, 5, []int{2, 3, 4}, 2), true}, {cross(), opened(1000000, 1), []int{3}, closing([]int{1}, 1000000, []int{3}, 2), true}, {cross(), opened(7, 2, 3, 4), []int{1}, closing([]int{2, 3, 4}, 7, []int{1}, 5), true}, {cross(), opened(6, 2, 4), []int{1}, closing([]int{2, 4}, 6, []int{1}, 3), true}, {keeps(), opened(7, 1, 2), []int{1, 3}, closing([]int{1, 2}, 7, []int{1, 3}, 2), true},
		// Nothing clears: less, more, and others that go together.
		{cross(), opened(7, 2, 3, 4), []int{2, 3}, opened(0, 2, 3), true}, {cross(), opened(9, 2, 3, 4), []int{4}, opened(0, 4), true}, {cross(), opened(5, 2), []int{2, 3, 4}, opened(0, 2, 3, 4), true}, {cross(), opened(5, 2), []int{3, 4}, opened(0, 3, 4), true}, {cross(), opened(1000000, 3), []int{4}, opened(0, 4), true},
		// Too soon.
		{cross(), opened(4, 1), []int{2, 3, 4}, opened(4, 1), false}, {cross(), opened(6, 2, 3, 4), []int{1}, opened(6, 2, 3, 4), false}, {cross(), opened(4, 2), []int{2, 3}, opened(4, 2), false},
		// The same one, an empty one, and what is no stage.
		{cross(), opened(9, 1), []int{1}, opened(9, 1), false}, {cross(), opened(9, 2, 3, 4), []int{2, 3, 4}, opened(9, 2, 3, 4), false}, {cross(), opened(9, 1), nil, opened(9, 1), false}, {cross(), opened(9, 1), []int{}, opened(9, 1), false}, {cross(), opened(9, 1), []int{1, 2}, opened(9, 1), false}, {cross(), opened(9, 1), []int{3, 2}, opened(9, 1), false}, {cross(), opened(9, 1), []int{2, 2}, opened(9, 1), false}, {cross(), opened(9, 1), []int{9}, opened(9, 1), false}, {cross(), opened(9, 1), []int{math.MinInt}, opened(9, 1), false}, {cross(), opened(9, 1), []int{2, math.MaxInt}, opened(9, 1), false},
		// While it clears.
		{cross(), closing([]int{1}, 9, []int{2}, 1), []int{3}, closing([]int{1}, 9, []int{2}, 1), false}, {cross(), closing([]int{1}, 9, []int{2}, 2), []int{2}, closing([]int{1}, 9, []int{2}, 2), false}, {cross(), closing([]int{1}, 9, []int{2}, 2), []int{1}, closing([]int{1}, 9, []int{2}, 2), false},
	}
	for _, c := range cases {
		if got, ok := impl.AskStage(c.l, c.x, c.stage); ok != c.ok || !sameControl(got, c.want) {
			t.Errorf("AskStage(%v, %v, %v) = %v, %v; want %v, %v", c.l, c.x, c.stage, got, ok, c.want, c.ok)
		}
	}
	source := rand.New(rand.NewSource(145))
	for _, c := range someControls(146, 300) {
		stages := append(oddIds(), nil, c.x.Stage, c.x.Next)
		for range 6 {
			stages = append(stages, drawStage(source, c.l, c.l[source.Intn(len(c.l))].Id), put(c.x.Stage, c.l[source.Intn(len(c.l))].Id))
		}
		for _, stage := range stages {
			want, can := c.x, canEnd(c.l, c.x) && len(stage) > 0 && areTogether(c.l, stage) && !slices.Equal(stage, c.x.Stage)
			if can {
				want = changedTo(c.l, c.x, stage)
			}
			if got, ok := impl.AskStage(c.l, c.x, stage); ok != can || !sameControl(got, want) {
				t.Errorf("AskStage(%v, %v, %v) = %v, %v; want %v, %v", c.l, c.x, stage, got, ok, want, can)
			}
		}
	}
}

func TestTickControl(t *testing.T) {
	cases := []struct {
		l       []impl.Path
		x, want impl.Control
	}{
		{cross(), opened(0, 1), opened(1, 1)}, {cross(), opened(4, 1), opened(5, 1)}, {cross(), opened(60, 2, 3, 4), opened(61, 2, 3, 4)}, {cross(), opened(999999, 1), opened(1000000, 1)}, {cross(), opened(1000000, 1), opened(1000000, 1)},
		// What clears, until the last second.
		{cross(), closing([]int{2, 3, 4}, 7, []int{1}, 5), closing([]int{2, 3, 4}, 7, []int{1}, 4)}, {cross(), closing([]int{1}, 1000000, []int{2, 3, 4}, 2), closing([]int{1}, 1000000, []int{2, 3, 4}, 1)}, {cross(), closing([]int{1}, 5, []int{2, 3, 4}, 1), opened(0, 2, 3, 4)}, {keeps(), closing([]int{1, 2}, 7, []int{1, 3}, 1), opened(0, 1, 3)},
	}
	for _, c := range cases {
		if got := impl.TickControl(c.l, c.x); !sameControl(got, c.want) {
			t.Errorf("TickControl(%v, %v) = %v; want %v", c.l, c.x, got, c.want)
		}
	}
	for _, c := range someControls(147, 300) {
		x := c.x
		for range 9 {
			want := ticked(x)
			got := impl.TickControl(c.l, x)
			if !sameControl(got, want) {
				t.Errorf("TickControl(%v, %v) = %v; want %v", c.l, x, got, want)
			}
			x = want
		}
	}
}

// What is no controller shows nothing, cannot end, and stays as it is.
func TestNotControls(t *testing.T) {
	for _, c := range notControls() {
		if impl.IsControl(c.l, c.x) || len(impl.LightsOf(c.l, c.x)) != 0 || impl.CanEnd(c.l, c.x) {
			t.Errorf("%v, %v: IsControl %v, LightsOf %v, CanEnd %v", c.l, c.x, impl.IsControl(c.l, c.x), impl.LightsOf(c.l, c.x), impl.CanEnd(c.l, c.x))
		}
		if got := impl.TickControl(c.l, c.x); !sameControl(got, c.x) {
			t.Errorf("TickControl(%v, %v) = %v", c.l, c.x, got)
		}
		for _, stage := range [][]int{nil, {1}, {2}, {4}, {2, 3, 4}, {99}} {
			if got, ok := impl.AskStage(c.l, c.x, stage); ok || !sameControl(got, c.x) {
				t.Errorf("AskStage(%v, %v, %v) = %v, %v", c.l, c.x, stage, got, ok)
			}
		}
	}
}

func TestEqualControls(t *testing.T) {
	different := []impl.Control{
		{}, opened(5, 1), opened(6, 1), opened(5, 2), opened(5, 1, 2), opened(5, 2, 1), opened(5), opened(math.MinInt, 1), opened(1<<32+5, 1), {Stage: []int{1}, Since: 5, Left: 1}, {Stage: []int{1}, Since: 5, Left: math.MaxInt},
		closing([]int{1}, 5, []int{2}, 0), closing([]int{1}, 5, []int{2}, 1), closing([]int{1}, 5, []int{2}, 2), closing([]int{1}, 5, []int{3}, 1), closing([]int{1}, 5, []int{2, 3}, 1), closing([]int{1}, 6, []int{2}, 1), closing([]int{2}, 5, []int{1}, 1), closing(nil, 5, []int{1}, 0), closing(nil, 0, []int{2}, 1), closing(nil, 1, nil, 5), closing([]int{1}, 1, nil, 5),
	}
	for i, a := range different {
		for j, b := range different {
			b.Stage, b.Next = slices.Clone(b.Stage), slices.Clone(b.Next)
			if got := impl.EqualControls(a, b); got != (i == j) {
				t.Errorf("EqualControls(%v, %v) = %v", a, b, got)
			}
		}
	}
	if !impl.EqualControls(impl.Control{}, impl.Control{Stage: []int{}, Next: []int{}}) || !impl.EqualControls(impl.Control{Stage: []int{1}, Next: []int{}}, opened(0, 1)) {
		t.Error("nil and empty lists")
	}
}

// wantSafeStep checks a controller at a second, with when each path was green last, and notes what is green now.
func wantSafeStep(t *testing.T, c steered, second int, green map[int]int) {
	t.Helper()
	lights := impl.LightsOf(c.l, c.x)
	if !impl.IsControl(c.l, c.x) || !isControl(c.l, c.x) || !impl.IsSafeLights(c.l, lights) || !areSafe(c.l, lights) || !slices.Equal(lights, lightsOf(c.l, c.x)) {
		t.Fatalf("%v, %v: IsControl %v; its lights are %v", c.l, c.x, impl.IsControl(c.l, c.x), lights)
	}
	for i, b := range c.l {
		for _, a := range c.l {
			if last, was := green[a.Id]; was && lights[i] == impl.LtGreen && collide(a, b) && second-last <= clearSeconds(a) {
				t.Fatalf("%v, %v: %d is open at the second %d, and %d was at %d", c.l, c.x, b.Id, second, a.Id, last)
			}
		}
	}
	for i, light := range lights {
		if light == impl.LtGreen {
			green[c.l[i].Id] = second
		}
	}
}

// Promise 14: a controller stays valid, whatever is asked, its lights are safe, and nothing opens before it is clear.
func TestAControllerStaysValidAndItsLightsAreSafe(t *testing.T) {
	source := rand.New(rand.NewSource(148))
	changes := 0
	for _, c := range someControls(149, 100) {
		green := map[int]int{}
		second := 0
		wantSafeStep(t, c, second, green)
		for range 120 {
			stage := drawStage(source, c.l, c.l[source.Intn(len(c.l))].Id)
			if source.Intn(8) == 0 {
				stage = oddIds()[source.Intn(len(oddIds()))]
			}
			before := c.x
			asked, ok := impl.AskStage(c.l, before, stage)
			if !ok {
				asked = impl.TickControl(c.l, before)
			} else {
				changes++
			}
			c.x = asked
			second++
			wantSafeStep(t, c, second, green)
			if ended := len(before.Next) == 0 && (len(asked.Next) > 0 || !slices.Equal(before.Stage, asked.Stage)); ended && before.Since < leastGreen(c.l, before.Stage) {
				t.Fatalf("%v: %v ends as %v", c.l, before, asked)
			}
		}
	}
	if changes < 500 {
		t.Error(changes)
	}
}

// A stage that is asked for opens behind just as many seconds as have to clear.
func TestTheNextStageOpensWhenItIsClear(t *testing.T) {
	for _, c := range someControls(150, 60) {
		for _, stage := range cover(c.l) {
			asked, ok := impl.AskStage(c.l, c.x, stage)
			for range clearSecondsBetween(c.l, c.x.Stage, stage) {
				if ok && (!slices.Equal(asked.Next, stage) || asked.Since != c.x.Since) {
					t.Errorf("%v: %v, asked for %v, becomes %v", c.l, c.x, stage, asked)
				}
				asked = impl.TickControl(c.l, asked)
			}
			if ok && !sameControl(asked, opened(0, stage...)) {
				t.Errorf("%v: %v, asked for %v, becomes %v", c.l, c.x, stage, asked)
			}
		}
	}
}

// roomyControl returns the controller with lists in greater arrays, and these.
func roomyControl(x impl.Control) (impl.Control, [][]int) {
	stage, wholeStage := roomy(x.Stage, 5, 77)
	next, wholeNext := roomy(x.Next, 6, 78)
	return closing(stage, x.Since, next, x.Left), [][]int{wholeStage, wholeNext}
}

// wantUntouchedControl calls visit with the paths and the controller in greater arrays, and checks that nothing in these is
// changed.
func wantUntouchedControl(t *testing.T, name string, c steered, visit func(l []impl.Path, x impl.Control)) {
	t.Helper()
	l, wholeL := roomy(c.l, car(5, 0, 1), car(6, 1, 0))
	x, lists := roomyControl(c.x)
	paths, numbers := slices.Clone(wholeL), copyStages(lists)
	visit(l, x)
	if !slices.Equal(wholeL, paths) || !sameStages(lists, numbers) {
		t.Errorf("%s of %v, %v changes the paths to %v, or the stages to %v", name, c.l, c.x, wholeL, lists)
	}
}

// wantOwnControl checks that a write to a list of a result changes neither its other list nor another result.
func wantOwnControl(t *testing.T, name string, c steered, call func() impl.Control) {
	t.Helper()
	want := call()
	want.Stage, want.Next = slices.Clone(want.Stage), slices.Clone(want.Next)
	other, first, second := call(), call(), call()
	spoil(first.Stage)
	spoil(second.Next)
	if !slices.Equal(first.Next, want.Next) || !slices.Equal(second.Stage, want.Stage) || !sameControl(other, want) || !sameControl(call(), want) {
		t.Errorf("%s of %v, %v: a write to a result changes %v to %v, %v, %v or %v", name, c.l, c.x, want, first, second, other, call())
	}
}

func TestControlsAreNewMemory(t *testing.T) {
	for _, c := range append(someControls(151, 60), notControls()...) {
		stage, whole := roomy([]int{2, 3}, 4, 77)
		if len(c.l) > 0 {
			stage[0], stage[1] = c.l[0].Id, c.l[len(c.l)-1].Id
		}
		numbers := slices.Clone(whole)
		wantUntouchedControl(t, "a function of controllers", c, func(l []impl.Path, x impl.Control) {
			impl.IsControl(l, x)
			impl.CanEnd(l, x)
			impl.EqualControls(x, x)
			spoil(impl.LightsOf(l, x))
			wantOwnControl(t, "TickControl", c, func() impl.Control { return impl.TickControl(l, x) })
			for _, ids := range [][]int{stage, stage[:1], stage[1:]} {
				wantOwnControl(t, "AskStage", c, func() impl.Control {
					asked, _ := impl.AskStage(l, x, ids)
					return asked
				})
			}
			first, second := impl.LightsOf(l, x), impl.LightsOf(l, x)
			spoil(first)
			if len(second) > 0 && !slices.Equal(second, lightsOf(l, x)) {
				t.Errorf("LightsOf(%v, %v): a write to a result changes another one to %v", l, x, second)
			}
		})
		if !slices.Equal(whole, numbers) {
			t.Errorf("AskStage(%v, %v, %v), or a write to its result, changes %v to %v", c.l, c.x, stage, numbers, whole)
		}
	}
}
