package tests

import (
	"math"
	"math/rand"
	"slices"
	"testing"

	"loop.example/g03006/impl"
)

// switched is a crossing with two plans, of which the second one is to follow the first one.
type switched struct {
	l    []impl.Path
	a, b []impl.Part
}

// turned is the oracle for RotatePlan with an index that is there.
func turned(p []impl.Part, i int) []impl.Part {
	var list []impl.Part
	for n := range p {
		list = append(list, p[(i+n)%len(p)])
	}
	return list
}

// switchSeconds is the oracle for SwitchSeconds of two plans.
func switchSeconds(c switched) []int {
	var seconds []int
	for i, one := range c.a {
		if slices.Equal(one.Stage, c.b[0].Stage) {
			seconds = append(seconds, startOf(c.l, c.a, i))
		}
	}
	return seconds
}

// switchAt is the oracle for SwitchAt of two plans: it looks at one second after the other.
func switchAt(c switched, from int) int {
	seconds, cycle := switchSeconds(c), cycleOf(c.l, c.a)
	if len(seconds) == 0 || from < 0 || from > 100000 {
		return -1
	}
	for !slices.Contains(seconds, from%cycle) {
		from++
	}
	return from
}

// lightAfter is the oracle for LightAfter of two plans.
func lightAfter(c switched, at int, second int, id int) int {
	if at < 0 || at > 200000 || second < 0 || second > 1000000 || !hasPath(c.l, id) {
		return 0
	}
	if second < at {
		return lightOf(c.l, c.a, second, id)
	}
	return lightOf(c.l, c.b, second-at, id)
}

// makeSwitch is the oracle for MakeSwitch of two plans.
func makeSwitch(c switched) ([]impl.Part, bool) {
	for i := range c.b {
		if p := turned(c.b, i); len(switchSeconds(switched{c.l, c.a, p})) > 0 {
			return p, true
		}
	}
	return c.b, false
}

// knownSwitches are pairs of plans that the tests know.
func knownSwitches() []switched {
	l := cross()
	a := []impl.Part{part(5, 1), part(7, 2, 3, 4)}
	twice := []impl.Part{part(5, 1), part(7, 2, 3), part(9, 1), part(6, 2, 4)}
	return []switched{
		{l, a, []impl.Part{part(20, 2, 3, 4), part(30, 1)}}, {l, a, a}, {l, a, []impl.Part{part(30, 1), part(20, 2, 3, 4)}},
		// The first stage of the second plan is in the first one never, or twice. The second one of these pairs has no second plan.
		{l, a, []impl.Part{part(5, 2, 4), part(7, 3), part(5, 1)}}, {l, a, []impl.Part{part(7, 2, 3), part(8, 2, 4)}}, {l, twice, a}, {l, twice, twice}, {l, twice, []impl.Part{part(60, 1), part(60, 2, 4), part(60, 3)}}, {l, twice, turned(twice, 1)}, {l, twice, turned(twice, 3)}, {l, twice, []impl.Part{part(9, 2, 3, 4), part(9, 1)}},
		// No stage of the one is in the other one.
		{l[1:], []impl.Part{part(7, 2, 3, 4)}, []impl.Part{part(5, 2, 4), part(7, 3)}}, {l[1:], []impl.Part{part(5, 2, 4), part(7, 3)}, []impl.Part{part(7, 2, 3, 4)}},
		// Plans of one part, and of six with the same stage.
		{l[:1], []impl.Part{part(5, 1)}, []impl.Part{part(9, 1)}}, {l[:1], []impl.Part{part(5, 1)}, []impl.Part{part(5, 1), part(60, 1)}}, {l[:1], []impl.Part{part(5, 1), part(6, 1), part(7, 1), part(8, 1), part(9, 1), part(10, 1)}, []impl.Part{part(30, 1)}},
	}
}

// someSwitches are pairs of plans of crossings of all lengths but 0.
func someSwitches(seed int64, count int) []switched {
	source := rand.New(rand.NewSource(seed))
	list := slices.DeleteFunc(knownSwitches(), func(c switched) bool { return !isPlan(c.l, c.a) || !isPlan(c.l, c.b) })
	for _, c := range append(examples(), somePlans(seed, count)...) {
		// The same stages in another order, and others.
		b := slices.Clone(c.p)
		source.Shuffle(len(b), func(i int, j int) { b[i], b[j] = b[j], b[i] })
		list = append(list, switched{c.l, c.p, b})
		if other := drawPlan(source, c.l); len(other) <= impl.MaxParts {
			list = append(list, switched{c.l, c.p, other}, switched{c.l, other, c.p})
		}
	}
	return list
}

// notSwitches are pairs of which the first one, the second one, or both are no plans.
func notSwitches() []switched {
	var list []switched
	good := knownSwitches()[0]
	for _, c := range notPlans() {
		list = append(list, switched{c.l, c.p, c.p})
		if slices.Equal(c.l, good.l) {
			list = append(list, switched{c.l, good.a, c.p}, switched{c.l, c.p, good.b})
		}
	}
	return append(list, switched{nil, good.a, good.b}, switched{good.l[:3], good.a, good.b}, switched{[]impl.Path{good.l[1], good.l[0], good.l[2], good.l[3]}, good.a, good.b})
}

func TestSwitchSeconds(t *testing.T) {
	want := [][]int{
		{7}, {0}, {0},
		// The fifth pair has no second plan.
		nil, nil, {0, 19}, {0, 19}, {0, 19}, {7}, {30}, nil,
		nil, nil,
		{0}, {0}, {0, 5, 11, 18, 26, 35},
	}
	for i, c := range knownSwitches() {
		if got := impl.SwitchSeconds(c.l, c.a, c.b); !slices.Equal(got, want[i]) || impl.CanSwitch(c.l, c.a, c.b) != (len(want[i]) > 0) {
			t.Errorf("SwitchSeconds(%v, %v, %v) = %v; want %v; CanSwitch is %v", c.l, c.a, c.b, got, want[i], impl.CanSwitch(c.l, c.a, c.b))
		}
	}
	for _, c := range someSwitches(178, 300) {
		want := switchSeconds(c)
		if got := impl.SwitchSeconds(c.l, c.a, c.b); !slices.Equal(got, want) || impl.CanSwitch(c.l, c.a, c.b) != (len(want) > 0) {
			t.Errorf("SwitchSeconds(%v, %v, %v) = %v; want %v; CanSwitch is %v", c.l, c.a, c.b, got, want, impl.CanSwitch(c.l, c.a, c.b))
		}
	}
}

func TestSwitchAt(t *testing.T) {
	list := knownSwitches()
	cases := []struct {
		c          switched
		from, want int
	}{
		// At the one second, one later, and before it.
		{list[0], 0, 7}, {list[0], 6, 7}, {list[0], 7, 7}, {list[0], 8, 26}, {list[0], 18, 26}, {list[0], 19, 26}, {list[0], 26, 26}, {list[0], 27, 45}, {list[1], 0, 0}, {list[1], 1, 19}, {list[1], 18, 19}, {list[1], 19, 19}, {list[1], 20, 38},
		// At two seconds, and behind the last one of the cycle of 39.
		{list[5], 0, 0}, {list[5], 1, 19}, {list[5], 18, 19}, {list[5], 19, 19}, {list[5], 20, 39}, {list[5], 38, 39}, {list[5], 39, 39}, {list[5], 40, 58},
		// At both ends of its range.
		{list[0], 100000, 100004}, {list[0], 99990, 100004}, {list[0], 99985, 99985}, {list[0], 100001, -1}, {list[0], -1, -1}, {list[0], math.MinInt, -1}, {list[0], math.MaxInt, -1}, {list[0], 1 << 32, -1},
		// Where there are none.
		{list[3], 0, -1}, {list[3], 7, -1}, {list[11], 0, -1}, {list[3], -1, -1},
		{list[13], 0, 0}, {list[13], 1, 5}, {list[13], 99999, 100000}, {list[13], 100000, 100000}, {list[15], 36, 45}, {list[15], 35, 35}, {list[15], 12, 18},
	}
	for _, c := range cases {
		if got := impl.SwitchAt(c.c.l, c.c.a, c.c.b, c.from); got != c.want {
			t.Errorf("SwitchAt(%v, %v, %v, %d) = %d; want %d", c.c.l, c.c.a, c.c.b, c.from, got, c.want)
		}
	}
	source := rand.New(rand.NewSource(179))
	for _, c := range someSwitches(180, 100) {
		cycle := cycleOf(c.l, c.a)
		seconds := append(around(0, 2), cycle-1, cycle, cycle+1, 99999, 100000, 100001, source.Intn(100000), source.Intn(3*cycle))
		for _, second := range switchSeconds(c) {
			seconds = append(seconds, second-1, second, second+1, second+5*cycle, second+5*cycle+1)
		}
		for _, from := range seconds {
			if got, want := impl.SwitchAt(c.l, c.a, c.b, from), switchAt(c, from); got != want {
				t.Errorf("SwitchAt(%v, %v, %v, %d) = %d; want %d", c.l, c.a, c.b, from, got, want)
			}
		}
	}
}

func TestLightAfter(t *testing.T) {
	c := knownSwitches()[0]
	cases := [][4]int{
		// at, second, id, and the light: a second of just at, and one before.
		{7, 6, 1, 2}, {7, 7, 1, 0}, {7, 6, 2, 0}, {7, 7, 2, 1}, {7, 26, 2, 1}, {7, 27, 2, 2}, {7, 32, 1, 1}, {7, 0, 1, 1}, {7, 4, 1, 1}, {7, 5, 1, 2}, {0, 0, 1, 0}, {0, 0, 2, 1}, {0, 19, 3, 1}, {0, 20, 3, 2}, {0, 25, 1, 1},
		// Both ends of their ranges: 200000 is the second 6 of a cycle of a, and 800000 the second 5 of one of b.
		{200000, 199998, 1, 1}, {200000, 199999, 1, 2}, {200000, 200000, 1, 0}, {200000, 199999, 2, 0}, {200000, 200000, 2, 1}, {200000, 0, 1, 1}, {200000, 200019, 4, 1}, {200000, 200020, 4, 2}, {200000, 1000000, 1, 0}, {200000, 1000000, 3, 1}, {200000, 1000000, 4, 1},
		// Out of range.
		{200001, 0, 1, 0}, {200001, 200001, 2, 0}, {200001, 1000000, 1, 0}, {-1, 0, 2, 0}, {-1, -1, 2, 0}, {-5, 0, 1, 0}, {0, 1000001, 2, 0}, {7, -1, 1, 0}, {200000, -1, 1, 0}, {math.MinInt, 0, 2, 0}, {math.MaxInt, 0, 1, 0}, {7, math.MinInt, 1, 0}, {7, math.MaxInt, 2, 0}, {math.MinInt, math.MinInt, 2, 0}, {math.MaxInt, math.MaxInt, 2, 0}, {math.MinInt, math.MaxInt, 2, 0}, {1 << 32, 0, 1, 0}, {0, 1 << 32, 2, 0},
		// An Id that is no path's.
		{7, 0, 9, 0}, {7, 7, 9, 0}, {7, 0, 0, 0}, {7, 0, -1, 0}, {7, 0, math.MinInt, 0}, {7, 7, math.MaxInt, 0},
	}
	for _, k := range cases {
		if got := impl.LightAfter(c.l, c.a, c.b, k[0], k[1], k[2]); got != k[3] || got != lightAfter(c, k[0], k[1], k[2]) {
			t.Errorf("LightAfter(%v, %v, %v, %d, %d, %d) = %d; want %d, or %d", c.l, c.a, c.b, k[0], k[1], k[2], got, k[3], lightAfter(c, k[0], k[1], k[2]))
		}
	}
	source := rand.New(rand.NewSource(181))
	for _, c := range someSwitches(182, 60) {
		for _, at := range []int{-1, 0, 1, source.Intn(500), source.Intn(200001), 199999, 200000, 200001} {
			for _, second := range []int{-1, 0, 1, at - 1, at, at + 1, at + source.Intn(500), source.Intn(1000001), 999999, 1000000, 1000001} {
				id := c.l[source.Intn(len(c.l))].Id
				if got, want := impl.LightAfter(c.l, c.a, c.b, at, second, id), lightAfter(c, at, second, id); got != want {
					t.Errorf("LightAfter(%v, %v, %v, %d, %d, %d) = %d; want %d", c.l, c.a, c.b, at, second, id, got, want)
				}
			}
		}
	}
}

// Where one is no plan there is no change, and only the other one shows anything.
func TestSwitchesOfNoPlan(t *testing.T) {
	for _, c := range notSwitches() {
		if got := impl.SwitchSeconds(c.l, c.a, c.b); len(got) != 0 || impl.CanSwitch(c.l, c.a, c.b) {
			t.Errorf("SwitchSeconds(%v, %v, %v) = %v, CanSwitch %v", c.l, c.a, c.b, got, impl.CanSwitch(c.l, c.a, c.b))
		}
		for _, from := range []int{math.MinInt, -1, 0, 7, 100000, math.MaxInt} {
			if got := impl.SwitchAt(c.l, c.a, c.b, from); got != -1 {
				t.Errorf("SwitchAt(%v, %v, %v, %d) = %d", c.l, c.a, c.b, from, got)
			}
		}
		if got, ok := impl.MakeSwitch(c.l, c.a, c.b); ok || !samePlan(got, c.b) {
			t.Errorf("MakeSwitch(%v, %v, %v) = %v, %v", c.l, c.a, c.b, got, ok)
		}
		for _, second := range []int{0, 6, 7, 12, 40} {
			for id := range 6 {
				p, own := c.a, second
				if second >= 7 {
					p, own = c.b, second-7
				}
				want := 0
				if impl.IsPlan(c.l, p) && hasPath(c.l, id) {
					want = lightOf(c.l, p, own, id)
				}
				if got := impl.LightAfter(c.l, c.a, c.b, 7, second, id); got != want {
					t.Errorf("LightAfter(%v, %v, %v, 7, %d, %d) = %d; want %d", c.l, c.a, c.b, second, id, got, want)
				}
			}
		}
	}
}

// Promise 18: plans are changed at a second at which a stage begins, the first one of the other plan, and then no second is
// unsafe, and nothing opens before it is clear.
func TestPlansAreChangedAtASecondAtWhichAStageBegins(t *testing.T) {
	source := rand.New(rand.NewSource(183))
	changes := 0
	for _, c := range someSwitches(184, 40) {
		b, ok := impl.MakeSwitch(c.l, c.a, c.b)
		if !ok {
			continue
		}
		changes++
		from := source.Intn(100)
		at := impl.SwitchAt(c.l, c.a, b, from)
		i, since := impl.PartAt(c.l, c.a, at)
		if at < from || at-from >= impl.Cycle(c.l, c.a) || i < 0 || since != 0 || !slices.Equal(c.a[i].Stage, b[0].Stage) || !slices.Contains(impl.SwitchSeconds(c.l, c.a, b), at%impl.Cycle(c.l, c.a)) {
			t.Fatalf("%v: %v is changed to %v at %d", c.l, c.a, b, at)
		}
		green := map[int]int{}
		for second := range at + impl.Cycle(c.l, b) + 2 {
			var lights []int
			for _, p := range c.l {
				lights = append(lights, impl.LightAfter(c.l, c.a, b, at, second, p.Id))
			}
			if !areSafe(c.l, lights) || second < at && !slices.Equal(lights, impl.LightsAt(c.l, c.a, second)) || second >= at && !slices.Equal(lights, impl.LightsAt(c.l, b, second-at)) {
				t.Fatalf("%v: %v is changed to %v at %d, and shows %v at %d", c.l, c.a, b, at, lights, second)
			}
			for n, p := range c.l {
				for _, other := range c.l {
					if last, was := green[other.Id]; was && lights[n] == impl.LtGreen && collide(p, other) && second-last <= clearSeconds(other) {
						t.Fatalf("%v: %v is changed to %v at %d: %d is open at %d, and %d was at %d", c.l, c.a, b, at, p.Id, second, other.Id, last)
					}
				}
			}
			for n, light := range lights {
				if light == impl.LtGreen {
					green[c.l[n].Id] = second
				}
			}
		}
	}
	if changes < 40 {
		t.Error(changes)
	}
}

func TestRotatePlan(t *testing.T) {
	three := []impl.Part{part(5, 1), part(7, 2, 3), part(9)}
	cases := []struct {
		p    []impl.Part
		i    int
		want []impl.Part
	}{
		// The first, a middle and the last index.
		{three, 0, three}, {three, 1, []impl.Part{part(7, 2, 3), part(9), part(5, 1)}}, {three, 2, []impl.Part{part(9), part(5, 1), part(7, 2, 3)}}, {three[:1], 0, three[:1]},
		// Behind the last one, and below 0.
		{three, 3, three}, {three, 4, three}, {three, -1, three}, {three, -2, three}, {three, math.MinInt, three}, {three, math.MaxInt, three}, {three, 1<<32 + 1, three}, {three[:1], 1, three[:1]}, {three[:1], -1, three[:1]},
		{nil, 0, nil}, {nil, -1, nil}, {nil, 1, nil}, {[]impl.Part{}, 0, nil},
	}
	for _, c := range cases {
		if got := impl.RotatePlan(c.p, c.i); !samePlan(got, c.want) {
			t.Errorf("RotatePlan(%v, %d) = %v; want %v", c.p, c.i, got, c.want)
		}
	}
	for _, c := range slices.Concat(examples(), somePlans(185, 100), notPlans()) {
		for _, i := range around(0, 6) {
			want := c.p
			if i >= 0 && i < len(c.p) {
				want = turned(c.p, i)
			}
			got := impl.RotatePlan(c.p, i)
			if !samePlan(got, want) || impl.IsPlan(c.l, got) != impl.IsPlan(c.l, c.p) || impl.Cycle(c.l, got) != impl.Cycle(c.l, c.p) {
				t.Errorf("RotatePlan(%v, %d) = %v; want %v", c.p, i, got, want)
			}
		}
	}
}

func TestMakeSwitch(t *testing.T) {
	list := knownSwitches()
	three := []impl.Part{part(9, 3), part(9, 2, 4), part(9, 1)}
	cases := []struct {
		c    switched
		want []impl.Part
		ok   bool
	}{
		{list[0], list[0].b, true}, {list[1], list[1].b, true}, {switched{cross(), list[0].a, three}, []impl.Part{part(9, 1), part(9, 3), part(9, 2, 4)}, true}, {list[3], []impl.Part{part(5, 1), part(5, 2, 4), part(7, 3)}, true},
		// The first one of several.
		{switched{cross(), list[5].a, three}, []impl.Part{part(9, 2, 4), part(9, 1), part(9, 3)}, true}, {list[10], []impl.Part{part(9, 1), part(9, 2, 3, 4)}, true}, {list[6], list[6].b, true}, {list[8], list[8].b, true},
		// No stage of both is the same; plans of one part.
		{list[11], list[11].b, false}, {list[12], list[12].b, false}, {list[13], list[13].b, true}, {list[14], list[14].b, true}, {list[15], list[15].b, true},
		{switched{cross(), list[0].a, nil}, nil, false}, {switched{cross(), nil, three}, three, false}, {switched{nil, nil, nil}, nil, false}, {list[4], list[4].b, false},
	}
	for _, c := range cases {
		if got, ok := impl.MakeSwitch(c.c.l, c.c.a, c.c.b); ok != c.ok || !samePlan(got, c.want) {
			t.Errorf("MakeSwitch(%v, %v, %v) = %v, %v; want %v, %v", c.c.l, c.c.a, c.c.b, got, ok, c.want, c.ok)
		}
	}
	for _, c := range someSwitches(186, 300) {
		want, can := makeSwitch(c)
		if got, ok := impl.MakeSwitch(c.l, c.a, c.b); ok != can || !samePlan(got, want) {
			t.Errorf("MakeSwitch(%v, %v, %v) = %v, %v; want %v, %v", c.l, c.a, c.b, got, ok, want, can)
		}
	}
	// A long list that is no plan is not turned part by part.
	long := make([]impl.Part, 200000)
	if got, ok := impl.MakeSwitch(cross(), list[0].a, long); ok || len(got) != len(long) {
		t.Error(len(got), ok)
	}
}

// wantOwnPlan checks that a write to a result changes neither its other stages nor another result.
func wantOwnPlan(t *testing.T, name string, call func() []impl.Part) {
	t.Helper()
	want, other := copyParts(call()), call()
	for i := range want {
		p := call()
		spoilPlan(p, i)
		for j := range want {
			if j != i && !slices.Equal(p[j].Stage, want[j].Stage) {
				t.Errorf("%s: a write to the stage %d changes %v to %v", name, i, want[j], p[j])
			}
		}
		clear(p[:cap(p)])
	}
	if !samePlan(other, want) || !samePlan(call(), want) {
		t.Errorf("%s: a write to a result changes %v to %v or %v", name, want, other, call())
	}
}

func TestSwitchesAreOnCopies(t *testing.T) {
	for _, c := range append(someSwitches(187, 30), notSwitches()...) {
		wantUntouchedPlan(t, "a function of changes, for its first plan,", planned{c.l, c.a}, func(l []impl.Path, a []impl.Part) {
			wantUntouchedPlan(t, "a function of changes, for its second plan,", planned{c.l, c.b}, func(_ []impl.Path, b []impl.Part) {
				impl.SwitchAt(l, a, b, 7)
				impl.LightAfter(l, a, b, 7, 9, 1)
				impl.CanSwitch(l, a, b)
				first, second := impl.SwitchSeconds(l, a, b), impl.SwitchSeconds(l, a, b)
				before := slices.Clone(second)
				spoil(first)
				if third := impl.SwitchSeconds(l, a, b); !slices.Equal(second, before) || !slices.Equal(third, before) {
					t.Errorf("SwitchSeconds(%v, %v, %v): a write to a result changes %v to %v, and the next one to %v", l, a, b, before, second, third)
				}
				for i := -1; i <= len(b); i++ {
					wantOwnPlan(t, "RotatePlan", func() []impl.Part { return impl.RotatePlan(b, i) })
				}
				wantOwnPlan(t, "MakeSwitch", func() []impl.Part {
					p, _ := impl.MakeSwitch(l, a, b)
					return p
				})
			})
		})
	}
}
