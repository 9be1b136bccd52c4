package tests

import (
	"math"
	"math/rand"
	"slices"
	"testing"

	"loop.example/g03006/impl"
)

// leastCycle is the cycle of a plan each Green of which is the least.
func leastCycle(c planned) int {
	seconds := 0
	for i, one := range c.p {
		seconds += leastGreen(c.l, one.Stage) + clearBehind(c.l, c.p, i)
	}
	return seconds
}

// sharedGreens is the oracle for the Greens of ShareGreen of so many seconds: it counts each share second by second.
func sharedGreens(c planned, d []impl.Detector, spare int) []int {
	total, given := 0, 0
	var weights, greens []int
	for _, one := range c.p {
		weights = append(weights, stageDemand(d, one.Stage)+1)
		total += stageDemand(d, one.Stage) + 1
	}
	for i, one := range c.p {
		share := 0
		for (share+1)*total <= spare*weights[i] {
			share++
		}
		given += share
		greens = append(greens, leastGreen(c.l, one.Stage)+share)
	}
	for i := 0; given < spare; i = (i + 1) % len(greens) {
		greens[i]++
		given++
	}
	for i := range greens {
		greens[i] = min(greens[i], 60)
	}
	return greens
}

// withGreens returns the parts with other Greens.
func withGreens(p []impl.Part, greens []int) []impl.Part {
	parts := copyParts(p)
	for i := range parts {
		parts[i].Green = greens[i]
	}
	return parts
}

// greensOf are the Greens of all parts.
func greensOf(p []impl.Part) []int {
	greens := []int{}
	for _, one := range p {
		greens = append(greens, one.Green)
	}
	return greens
}

// cyclesOf are cycles at the limits of all cycles, and next to the least cycle of a plan.
func cyclesOf(least int) []int {
	return append(around(1, 1000), least-1, least, least+1, least+2, least+5, 2*least, 120, 999)
}

// badDetectors are detectors for which AreDetectors is false, whatever the crossing.
func badDetectors() [][]impl.Detector {
	return [][]impl.Detector{{fresh(21, 5)}, {fresh(0, 5)}, {fresh(1, -1)}, {fresh(1, 1001)}, {detector(1, 5, 100001, false)}, {detector(1, 5, -1, true)}, {fresh(math.MinInt, math.MaxInt)}, make([]impl.Detector, 13)}
}

func TestSpareGreen(t *testing.T) {
	cases := []struct{ example, cycle, want int }{
		// What clears and the least Greens take 19 seconds, whatever the Greens are.
		{0, 60, 41}, {0, 19, 0}, {0, 20, 1}, {0, 18, -1}, {0, 1, -1}, {0, 0, -1}, {0, -1, -1}, {0, 1000, 981}, {0, 1001, -1}, {1, 60, 41}, {1, 19, 0}, {1, 18, -1}, {1, 1000, 981},
		{2, 60, 36}, {2, 24, 0}, {2, 23, -1}, {3, 5, 0}, {3, 4, -1}, {3, 1000, 995}, {4, 7, 0}, {4, 6, -1}, {5, 7, 0}, {6, 10, 0}, {6, 9, -1}, {10, 30, 10},
	}
	for _, c := range cases {
		e := examples()[c.example]
		if got := impl.SpareGreen(e.l, e.p, c.cycle); got != c.want {
			t.Errorf("SpareGreen(%v, %v, %d) = %d; want %d", e.l, e.p, c.cycle, got, c.want)
		}
	}
	for _, c := range append(examples(), somePlans(111, 300)...) {
		least := leastCycle(c)
		for _, cycle := range cyclesOf(least) {
			want := -1
			if cycle >= 1 && cycle <= 1000 && cycle >= least {
				want = cycle - least
			}
			if got := impl.SpareGreen(c.l, c.p, cycle); got != want {
				t.Errorf("SpareGreen(%v, %v, %d) = %d; want %d", c.l, c.p, cycle, got, want)
			}
		}
	}
}

func TestShareGreen(t *testing.T) {
	six := []impl.Part{part(5, 1), part(5, 1), part(60, 1), part(5, 1), part(6, 1), part(7, 1)}
	two, three := examples()[0].p, examples()[2].p
	some := []impl.Detector{fresh(1, 29), fresh(2, 9), fresh(4, 3)}
	cases := []struct {
		l      []impl.Path
		p      []impl.Part
		d      []impl.Detector
		cycle  int
		greens []int
	}{
		// 41 seconds: 30 of 40 and 10 of 40 of them, and the one that is left.
		{cross(), two, some, 60, []int{36, 17}}, {cross(), examples()[1].p, some, 60, []int{36, 17}}, {cross(), two, some[1:], 60, []int{5 + 3 + 1, 7 + 37}}, {cross(), two, some[:1], 60, []int{5 + 39 + 1, 7 + 1}},
		// No detector, or none that is trusted: equal shares, and what is left goes to the first part.
		{cross(), two, nil, 60, []int{26, 27}}, {cross(), two, []impl.Detector{}, 61, []int{26, 28}}, {cross(), two, []impl.Detector{detector(1, 1000, 901, false), detector(2, 1000, 0, true)}, 60, []int{26, 27}}, {cross(), two, []impl.Detector{detector(1, 29, 900, false)}, 60, []int{45, 8}},
		// Nothing to share, and one second.
		{cross(), two, some, 19, []int{5, 7}}, {cross(), two, some, 20, []int{6, 7}}, {cross(), two, nil, 21, []int{6, 8}}, {cross(), two, []impl.Detector{fresh(2, 1000)}, 20, []int{6, 7}},
		// More than one part can take, or all of them; what is cut off is lost.
		{cross(), two, some, 200, []int{60, 52}}, {cross(), two, some, 1000, []int{60, 60}}, {cross(), two, nil, 127, []int{59, 61 - 1}}, {cross(), two, nil, 128, []int{60, 60}}, {cross(), two, []impl.Detector{fresh(1, 1000)}, 92, []int{60, 7}}, {cross(), two, []impl.Detector{fresh(1, 0), fresh(3, 1000)}, 100, []int{6, 60}},
		// Three parts, of which the first one, and then the first two, get what is left.
		{cross(), three, nil, 24, []int{5, 5, 7}}, {cross(), three, nil, 25, []int{6, 5, 7}}, {cross(), three, nil, 26, []int{6, 6, 7}}, {cross(), three, nil, 27, []int{6, 6, 8}}, {cross(), three, []impl.Detector{fresh(3, 1)}, 26, []int{6, 5, 8}}, {cross(), three, []impl.Detector{fresh(3, 1)}, 27, []int{6, 6, 8}},
		// A plan of one part, and of MaxParts parts.
		{cross()[:1], []impl.Part{part(5, 1)}, nil, 5, []int{5}}, {cross()[:1], []impl.Part{part(60, 1)}, nil, 5, []int{5}}, {cross()[:1], []impl.Part{part(9, 1)}, []impl.Detector{fresh(1, 1000)}, 59, []int{59}}, {cross()[:1], []impl.Part{part(9, 1)}, nil, 61, []int{60}}, {cross()[:1], []impl.Part{part(9, 1)}, nil, 1000, []int{60}},
		{cross()[:1], six, nil, 30, []int{5, 5, 5, 5, 5, 5}}, {cross()[:1], six, nil, 35, []int{6, 6, 6, 6, 6, 5}}, {cross()[:1], six, []impl.Detector{fresh(1, 1000)}, 44, []int{8, 8, 7, 7, 7, 7}}, {cross()[:1], six, nil, 1000, []int{60, 60, 60, 60, 60, 60}},
	}
	for _, c := range cases {
		got, ok := impl.ShareGreen(c.l, c.p, c.d, c.cycle)
		if !ok || !samePlan(got, withGreens(c.p, c.greens)) {
			t.Errorf("ShareGreen(%v, %v, %v, %d) = %v, %v; want the Greens %v", c.l, c.p, c.d, c.cycle, got, ok, c.greens)
		}
	}
}

// Promise 11: shared green is not longer than the cycle; and it is as long, where no Green is too great.
func TestSharedGreenIsNotLongerThanTheCycle(t *testing.T) {
	source := rand.New(rand.NewSource(112))
	shared := 0
	for _, c := range append(examples(), somePlans(113, 200)...) {
		least := leastCycle(c)
		for _, cycle := range append(cyclesOf(least), 1+source.Intn(1000), 1+source.Intn(200)) {
			d := drawDetectors(source, c.l)
			got, ok := impl.ShareGreen(c.l, c.p, d, cycle)
			if cycle < 1 || cycle > 1000 || cycle < least {
				if ok || !samePlan(got, c.p) {
					t.Errorf("ShareGreen(%v, %v, %v, %d) = %v, %v", c.l, c.p, d, cycle, got, ok)
				}
				continue
			}
			shared++
			greens := sharedGreens(c, d, cycle-least)
			if !ok || !samePlan(got, withGreens(c.p, greens)) || !impl.IsPlan(c.l, got) || !impl.SameStages(c.p, got) {
				t.Errorf("ShareGreen(%v, %v, %v, %d) = %v, %v; want the Greens %v", c.l, c.p, d, cycle, got, ok, greens)
			}
			if long := impl.Cycle(c.l, got); long > cycle || long < cycle && !slices.Contains(greens, 60) {
				t.Errorf("ShareGreen(%v, %v, %v, %d) = %v, with the cycle %d", c.l, c.p, d, cycle, got, long)
			}
		}
	}
	if shared < 1000 {
		t.Error(shared)
	}
}

// Whatever is no plan, no cycle, or are no detectors: the same parts and false.
func TestShareGreenOfNoPlan(t *testing.T) {
	check := func(c planned, d []impl.Detector, cycle int) {
		if got, ok := impl.ShareGreen(c.l, c.p, d, cycle); ok || !samePlan(got, c.p) {
			t.Errorf("ShareGreen(%v, %v, %v, %d) = %v, %v", c.l, c.p, d, cycle, got, ok)
		}
	}
	for _, c := range notPlans() {
		for _, cycle := range []int{math.MinInt, -1, 0, 1, 60, 1000, 1001, math.MaxInt} {
			if got := impl.SpareGreen(c.l, c.p, cycle); got != -1 {
				t.Errorf("SpareGreen(%v, %v, %d) = %d", c.l, c.p, cycle, got)
			}
			check(c, nil, cycle)
			check(c, []impl.Detector{fresh(1, 5)}, cycle)
		}
		for _, i := range []int{math.MinInt, -1, 0, 1, len(c.p), math.MaxInt} {
			if got := impl.GreenShare(c.l, c.p, i); got != 0 {
				t.Errorf("GreenShare(%v, %v, %d) = %d", c.l, c.p, i, got)
			}
		}
	}
	for _, c := range append(examples(), somePlans(114, 100)...) {
		for _, d := range badDetectors() {
			check(c, d, 120)
			check(c, d, leastCycle(c))
			check(c, d, 0)
		}
		id := c.l[0].Id
		check(c, []impl.Detector{fresh(id, 5), fresh(id, 5)}, 120)
		check(c, []impl.Detector{detector(id, 5, 0, true), fresh(id, 5)}, 120)
	}
}

func TestGreenShare(t *testing.T) {
	cases := []struct {
		example int
		want    []int
	}{
		{0, []int{26, 36}}, {1, []int{47, 47}}, {2, []int{20, 20, 29}}, {3, []int{100}}, {4, []int{100}}, {6, []int{35, 64}}, {9, []int{36, 42}}, {10, []int{35, 25}},
	}
	for _, c := range cases {
		e := examples()[c.example]
		for i, want := range c.want {
			if got := impl.GreenShare(e.l, e.p, i); got != want {
				t.Errorf("GreenShare(%v, %v, %d) = %d; want %d", e.l, e.p, i, got, want)
			}
		}
	}
	for _, c := range append(examples(), somePlans(115, 300)...) {
		total := 0
		for _, i := range around(0, len(c.p)-1) {
			want := 0
			if i >= 0 && i < len(c.p) {
				want = int(math.Floor(100*float64(c.p[i].Green)/float64(cycleOf(c.l, c.p)) + 1e-9))
			}
			if got := impl.GreenShare(c.l, c.p, i); got != want {
				t.Errorf("GreenShare(%v, %v, %d) = %d; want %d", c.l, c.p, i, got, want)
			}
		}
		for i := range c.p {
			total += impl.GreenShare(c.l, c.p, i)
		}
		if total < 1 || total > 100 {
			t.Errorf("%v, %v: all parts are green for %d of 100 seconds", c.l, c.p, total)
		}
	}
}

func TestSameStages(t *testing.T) {
	p := []impl.Part{part(5, 1), part(7, 2, 3, 4)}
	different := [][]impl.Part{
		nil, p[:1], p[1:], {p[1], p[0]}, append(slices.Clone(p), part(5, 1)), append(slices.Clone(p), impl.Part{}), slices.Concat(p, p),
		{part(5, 2), part(7, 2, 3, 4)}, {part(5, 1), part(7, 2, 3)}, {part(5, 1), part(7, 2, 4, 3)}, {part(5, 1), part(7, 2, 3, 4, 5)}, {part(5), part(7, 2, 3, 4)}, {part(5, 1, 2), part(7, 3, 4)},
		{part(0), part(0)}, {part(0)}, {part(0, math.MaxInt, math.MinInt)}, {part(0, math.MinInt, math.MaxInt)}, {part(0, 1, 1), part(0, 2, 3, 4)}, {part(0, 1<<32+1), part(0, 2, 3, 4)},
	}
	for i, a := range append(different, p) {
		for j, b := range append(different, p) {
			if got := impl.SameStages(a, b); got != (i == j) {
				t.Errorf("SameStages(%v, %v) = %v", a, b, got)
			}
		}
	}
	// Greens do not count.
	for _, greens := range [][]int{{6, 7}, {0, 0}, {7, 5}, {math.MinInt, math.MaxInt}} {
		if q := withGreens(p, greens); !impl.SameStages(p, q) || !impl.SameStages(q, p) {
			t.Errorf("SameStages(%v, %v) is false", p, q)
		}
	}
	if !impl.SameStages(nil, []impl.Part{}) || !impl.SameStages([]impl.Part{{}}, []impl.Part{{Stage: []int{}, Green: 5}}) || impl.SameStages(nil, []impl.Part{{}}) {
		t.Error("nil and empty lists")
	}
}

func TestTotalGreen(t *testing.T) {
	cases := []struct {
		greens []int
		want   int
	}{
		{nil, 0}, {[]int{0}, 0}, {[]int{5, 7}, 12}, {[]int{60, 60, 60}, 180}, {[]int{-5, 2000}, 1000}, {[]int{1000}, 1000}, {[]int{1001}, 1000}, {[]int{999, 1}, 1000}, {[]int{-1}, 0}, {[]int{-1, 5}, 5}, {[]int{1000, 1000, 1000}, 3000},
		{[]int{math.MinInt}, 0}, {[]int{math.MaxInt}, 1000}, {[]int{math.MaxInt, math.MaxInt, 7}, 2007}, {[]int{math.MinInt, math.MinInt, 7}, 7}, {[]int{1 << 32, -1 << 32}, 1000}, {[]int{1, 2, 3, 4, 5, 6, 7, 8, 9}, 45},
	}
	for _, c := range cases {
		p := make([]impl.Part, len(c.greens))
		if got := impl.TotalGreen(withGreens(p, c.greens)); got != c.want {
			t.Errorf("TotalGreen of %v is %d; want %d", c.greens, got, c.want)
		}
	}
	if impl.TotalGreen([]impl.Part{}) != 0 || impl.TotalGreen([]impl.Part{part(5, 1, 1, -9), part(7)}) != 12 {
		t.Error("stages do not count")
	}
	for _, c := range somePlans(116, 100) {
		want := 0
		for _, green := range greensOf(c.p) {
			want += green
		}
		if got := impl.TotalGreen(c.p); got != want {
			t.Errorf("TotalGreen(%v) = %d; want %d", c.p, got, want)
		}
	}
}

// The stages of a result are neither those of the plan nor of another result, also where two parts of the plan have one list.
func TestSharedGreenIsNewMemory(t *testing.T) {
	one := []int{1}
	twice := planned{cross()[:1], []impl.Part{{Stage: one, Green: 5}, {Stage: one, Green: 9}}}
	again := planned{cross(), []impl.Part{{Stage: one, Green: 5}, {Stage: one, Green: 9}}}
	for _, c := range slices.Concat(examples(), somePlans(117, 40), notPlans(), []planned{twice, again}) {
		for _, cycle := range []int{0, 1, leastCycleOr(c, 60), 120, 1000} {
			before := copyParts(c.p)
			want, ok := impl.ShareGreen(c.l, c.p, nil, cycle)
			want = copyParts(want)
			for i := range want {
				got, _ := impl.ShareGreen(c.l, c.p, nil, cycle)
				spoilPlan(got, i)
				for j := range want {
					if j != i && !slices.Equal(got[j].Stage, want[j].Stage) {
						t.Errorf("ShareGreen(%v, %v, nil, %d): a write to the stage %d changes %v to %v", c.l, c.p, cycle, i, want[j], got[j])
					}
				}
				clear(got[:cap(got)])
			}
			if got, still := impl.ShareGreen(c.l, c.p, nil, cycle); !samePlan(c.p, before) || !samePlan(got, want) || still != ok {
				t.Errorf("ShareGreen(%v, %v, nil, %d): a write to a result changes %v to %v, or %v to %v", c.l, before, cycle, before, c.p, want, got)
			}
		}
	}
}

// leastCycleOr is the least cycle of a plan, and the other number for what is none.
func leastCycleOr(c planned, other int) int {
	if impl.IsPlan(c.l, c.p) {
		return leastCycle(c)
	}
	return other
}

func TestSharingLeavesItsArguments(t *testing.T) {
	source := rand.New(rand.NewSource(118))
	for _, c := range slices.Concat(examples(), somePlans(119, 40), notPlans()) {
		d, whole := roomy(drawDetectors(source, c.l), fresh(5, 6), detector(7, 8, 9, true))
		detectors := slices.Clone(whole)
		wantUntouchedPlan(t, "a function of shared green", c, func(l []impl.Path, p []impl.Part) {
			impl.SpareGreen(l, p, 100)
			impl.ShareGreen(l, p, d, 100)
			impl.ShareGreen(l, p, d, 0)
			impl.GreenShare(l, p, 0)
			impl.SameStages(p, p)
			impl.TotalGreen(p)
		})
		if !slices.Equal(whole, detectors) {
			t.Errorf("ShareGreen(%v, %v) changes %v to %v", c.l, c.p, detectors, whole)
		}
	}
}
