package tests

import (
	"math"
	"math/rand"
	"slices"
	"testing"

	"loop.example/g03006/impl"
)

// partAt is the oracle for PartAt of a plan: it takes one part after the other away from the second.
func partAt(l []impl.Path, p []impl.Part, second int) (int, int) {
	second %= cycleOf(l, p)
	for i := range p {
		long := p[i].Green + clearBehind(l, p, i)
		if second < long {
			return i, second
		}
		second -= long
	}
	panic("a second beyond the cycle")
}

// lightOf is the oracle for LightAt of a path of a plan.
func lightOf(l []impl.Path, p []impl.Part, second int, id int) int {
	i, since := partAt(l, p, second)
	stays := slices.Contains(p[(i+1)%len(p)].Stage, id)
	switch behind := since - p[i].Green; {
	case !slices.Contains(p[i].Stage, id):
		return 0
	case behind < 0 || stays:
		return 1
	case behind < clearSeconds(pathOf(l, id)):
		return 2
	}
	return 0
}

// greenSeconds are the seconds of so many cycles of a plan at which a path shows LtGreen.
func greenSeconds(l []impl.Path, p []impl.Part, id int, cycles int) []int {
	var seconds []int
	for second := range cycles * cycleOf(l, p) {
		if lightOf(l, p, second, id) == 1 {
			seconds = append(seconds, second)
		}
	}
	return seconds
}

// longestGap is the oracle for WaitOf: the greatest distance of two green seconds, less 1.
func longestGap(l []impl.Path, p []impl.Part, id int) int {
	seconds, gap := greenSeconds(l, p, id, 2), 0
	for i := range len(seconds) - 1 {
		gap = max(gap, seconds[i+1]-seconds[i]-1)
	}
	return gap
}

func TestLightNumbers(t *testing.T) {
	if impl.LtRed != 0 || impl.LtGreen != 1 || impl.LtClear != 2 {
		t.Error(impl.LtRed, impl.LtGreen, impl.LtClear)
	}
}

func TestLightAt(t *testing.T) {
	// Each row has the lights of a path for a whole cycle: . for red, g for green, c for clear.
	cases := []struct {
		example int
		rows    map[int]string
	}{
		{0, map[int]string{1: "gggggcc............", 2: ".......gggggggcc...", 3: ".......gggggggccccc", 4: ".......gggggggccc.."}},
		// Nothing clears between the second part and the third one: 4 is red at once.
		{2, map[int]string{1: "gggggcc.................", 2: ".......ggggg............", 3: "............gggggggccccc", 4: ".......ggggg............"}},
		{3, map[int]string{1: "ggggg"}}, {6, map[int]string{1: "gggggggggggggg"}},
		// 2 is open in two parts one after the other.
		{7, map[int]string{1: ".................gggggcc", 2: "ggggggggggggcc..........", 3: ".....gggggggccccc.......", 4: "ggggg..................."}},
		// 2 is open in the last part and in the first one.
		{8, map[int]string{1: "............gggggcc.....", 2: "gggggggcc..........ggggg", 3: "gggggggccccc............", 4: "...................ggggg"}},
		// 1 is open in each part, while the others clear, too.
		{9, map[int]string{1: "ggggggggggggggggggg", 2: "gggggggcc..........", 3: ".........ggggggggcc"}},
		// 1 clears for a shorter time than its part.
		{10, map[int]string{1: "gggggggcc...........", 2: "gggggggccccc........", 3: "............gggggccc"}},
	}
	for _, c := range cases {
		e := examples()[c.example]
		for id, row := range c.rows {
			for second := range 3 * len(row) {
				want := map[byte]int{'.': 0, 'g': 1, 'c': 2}[row[second%len(row)]]
				if got := impl.LightAt(e.l, e.p, second, id); got != want {
					t.Errorf("LightAt(%v, %v, %d, %d) = %d; want %d", e.l, e.p, second, id, got, want)
				}
			}
		}
	}
}

// Seconds at both ends of their range, and ends of a cycle far from its beginning.
func TestLightAtOddSeconds(t *testing.T) {
	for _, c := range append(examples(), somePlans(91, 20)...) {
		cycle := cycleOf(c.l, c.p)
		seconds := around(0, 5)
		for _, n := range []int{0, 1, 2, 1000 * cycle, 999999 / cycle * cycle} {
			seconds = append(seconds, n-1, n, n+1, n+cycle-1, n+cycle, n+cycle+1)
		}
		seconds = append(seconds, 999999, 1000000, 1000001, 1<<32, 1<<62, math.MaxInt-1, math.MaxInt)
		for _, second := range seconds {
			var want []int
			for _, one := range c.l {
				light := 0
				if second >= 0 && second <= 1000000 {
					light = lightOf(c.l, c.p, second, one.Id)
				}
				want = append(want, light)
				if got := impl.LightAt(c.l, c.p, second, one.Id); got != light {
					t.Errorf("LightAt(%v, %v, %d, %d) = %d; want %d", c.l, c.p, second, one.Id, got, light)
				}
			}
			if got := impl.LightsAt(c.l, c.p, second); !slices.Equal(got, want) {
				t.Errorf("LightsAt(%v, %v, %d) = %v; want %v", c.l, c.p, second, got, want)
			}
			part, since := -1, 0
			if second >= 0 && second <= 1000000 {
				part, since = partAt(c.l, c.p, second)
			}
			if i, n := impl.PartAt(c.l, c.p, second); i != part || n != since {
				t.Errorf("PartAt(%v, %v, %d) = %d, %d; want %d, %d", c.l, c.p, second, i, n, part, since)
			}
		}
	}
}

// Promise 9: the lights of a plan are safe at every second.
func TestLightsOfPlansAreSafe(t *testing.T) {
	for _, c := range append(examples(), somePlans(92, 40)...) {
		cycle := cycleOf(c.l, c.p)
		for second := range cycle + 2 {
			lights := impl.LightsAt(c.l, c.p, second)
			if !impl.IsSafeLights(c.l, lights) || !areSafe(c.l, lights) {
				t.Errorf("%v, %v: the lights %v at the second %d are not safe", c.l, c.p, lights, second)
			}
			part, since := partAt(c.l, c.p, second)
			if i, n := impl.PartAt(c.l, c.p, second); i != part || n != since {
				t.Errorf("PartAt(%v, %v, %d) = %d, %d; want %d, %d", c.l, c.p, second, i, n, part, since)
			}
			for i, one := range c.l {
				want := lightOf(c.l, c.p, second, one.Id)
				if got := impl.LightAt(c.l, c.p, second, one.Id); got != want || lights[i] != want {
					t.Errorf("%v, %v: path %d shows %d at the second %d, and %d of all lights; want %d", c.l, c.p, one.Id, got, second, lights[i], want)
				}
			}
		}
	}
}

// A path opens only when each one that conflicts with it has cleared for the whole of its time.
func TestNothingOpensInAPlanBeforeItIsClear(t *testing.T) {
	for _, c := range append(examples(), somePlans(93, 60)...) {
		// When each path was green last.
		green := map[int]int{}
		for second := range 2 * impl.Cycle(c.l, c.p) {
			lights := impl.LightsAt(c.l, c.p, second)
			for i, b := range c.l {
				for _, a := range c.l {
					last, was := green[a.Id]
					if lights[i] == impl.LtGreen && collide(a, b) && was && second-last <= clearSeconds(a) {
						t.Errorf("%v, %v: %d is open at the second %d, and %d was at %d", c.l, c.p, b.Id, second, a.Id, last)
					}
				}
			}
			for i, light := range lights {
				if light == impl.LtGreen {
					green[c.l[i].Id] = second
				}
			}
		}
	}
}

// What is no plan shows red to all, and no path shows nothing, and waits for nothing.
func TestLightsOfNoPlan(t *testing.T) {
	for _, c := range notPlans() {
		for _, second := range []int{math.MinInt, -1, 0, 1, 5, 7, 100, 1000000, math.MaxInt} {
			if got := impl.LightsAt(c.l, c.p, second); !slices.Equal(got, make([]int, len(c.l))) {
				t.Errorf("LightsAt(%v, %v, %d) = %v", c.l, c.p, second, got)
			}
			if i, n := impl.PartAt(c.l, c.p, second); i != -1 || n != 0 {
				t.Errorf("PartAt(%v, %v, %d) = %d, %d", c.l, c.p, second, i, n)
			}
			for _, id := range []int{0, 1, 2, 3, 4, 20, math.MaxInt} {
				if got := impl.LightAt(c.l, c.p, second, id); got != impl.LtRed {
					t.Errorf("LightAt(%v, %v, %d, %d) = %d", c.l, c.p, second, id, got)
				}
			}
		}
		for _, id := range []int{math.MinInt, 0, 1, 2, 3, 4, 20} {
			if impl.GreenOf(c.l, c.p, id) != 0 || impl.WaitOf(c.l, c.p, id) != 0 {
				t.Errorf("%v, %v: GreenOf %d is %d, WaitOf %d", c.l, c.p, id, impl.GreenOf(c.l, c.p, id), impl.WaitOf(c.l, c.p, id))
			}
		}
	}
}

func TestLightsOfNoPath(t *testing.T) {
	for _, c := range append(examples(), somePlans(94, 100)...) {
		for _, id := range around(0, 20) {
			if slices.ContainsFunc(c.l, func(p impl.Path) bool { return p.Id == id }) {
				continue
			}
			for _, second := range []int{0, 1, 6, cycleOf(c.l, c.p) - 1} {
				if impl.LightAt(c.l, c.p, second, id) != impl.LtRed || impl.GreenOf(c.l, c.p, id) != 0 || impl.WaitOf(c.l, c.p, id) != 0 {
					t.Errorf("%v, %v: the path %d, which is none, shows %d, is green for %d and waits %d", c.l, c.p, id, impl.LightAt(c.l, c.p, second, id), impl.GreenOf(c.l, c.p, id), impl.WaitOf(c.l, c.p, id))
				}
			}
		}
	}
}

// areSafe is the oracle for IsSafeLights of a list of paths for which ArePaths holds.
func areSafe(l []impl.Path, lights []int) bool {
	if len(lights) != len(l) {
		return false
	}
	for i, a := range lights {
		if a != 0 && a != 1 && a != 2 {
			return false
		}
		for j, b := range lights {
			if a != 0 && b != 0 && collide(l[i], l[j]) {
				return false
			}
		}
	}
	return true
}

func TestIsSafeLights(t *testing.T) {
	cases := []struct {
		l      []impl.Path
		lights []int
		want   bool
	}{
		{cross(), []int{0, 0, 0, 0}, true}, {cross(), []int{1, 0, 0, 0}, true}, {cross(), []int{2, 0, 0, 0}, true}, {cross(), []int{0, 1, 2, 1}, true}, {cross(), []int{0, 2, 2, 2}, true}, {cross(), []int{0, 1, 1, 1}, true},
		// Two that conflict, open or clearing.
		{cross(), []int{1, 1, 0, 0}, false}, {cross(), []int{1, 2, 0, 0}, false}, {cross(), []int{2, 1, 0, 0}, false}, {cross(), []int{2, 2, 0, 0}, false}, {cross(), []int{2, 0, 0, 2}, false}, {cross(), []int{1, 0, 2, 0}, false}, {cross(), []int{1, 1, 1, 1}, false},
		// Too few, too many, or no lights.
		{cross(), []int{1, 0, 0}, false}, {cross(), []int{1, 0, 0, 0, 0}, false}, {cross(), nil, false}, {cross(), []int{}, false}, {nil, []int{0}, false}, {nil, nil, true}, {[]impl.Path{}, []int{}, true}, {cross()[:1], []int{2}, true},
		{cross(), []int{3, 0, 0, 0}, false}, {cross(), []int{-1, 0, 0, 0}, false}, {cross(), []int{0, 0, 0, 3}, false}, {cross(), []int{0, 0, 0, -1}, false}, {cross(), []int{0, math.MinInt, 0, 0}, false}, {cross(), []int{0, 0, math.MaxInt, 0}, false}, {cross(), []int{0, 0, 1 << 32, 0}, false},
		{walks(1, 12), []int{1, 2, 1, 2, 1, 2, 1, 2, 1, 2, 1, 2}, true}, {friends(), []int{1, 1, 1, 2, 2, 2}, true}, {rivals(), []int{0, 1, 0, 2}, false}, {rivals(), []int{0, 0, 0, 2}, true},
	}
	for _, c := range cases {
		if got := impl.IsSafeLights(c.l, c.lights); got != c.want {
			t.Errorf("IsSafeLights(%v, %v) = %v", c.l, c.lights, got)
		}
	}
	source := rand.New(rand.NewSource(95))
	for _, l := range stagedCrossings(96, 200) {
		for range 60 {
			lights := make([]int, len(l))
			for i := range lights {
				// Red mostly, so that many are safe, and sometimes no light.
				lights[i] = []int{0, 0, 0, 0, 0, 1, 2, 1, 2, 0, 1, 2, 3, -1}[source.Intn(8+source.Intn(7))]
			}
			if got := impl.IsSafeLights(l, lights); got != areSafe(l, lights) {
				t.Errorf("IsSafeLights(%v, %v) = %v", l, lights, got)
			}
		}
	}
	for _, l := range notCrossings() {
		if impl.IsSafeLights(l, make([]int, len(l))) || impl.IsSafeLights(l, nil) {
			t.Errorf("IsSafeLights of %v, for which ArePaths is false, is true", l)
		}
	}
}

func TestGreenOfAndWaitOf(t *testing.T) {
	cases := []struct {
		example, id, green, wait int
	}{
		{0, 1, 5, 14}, {0, 2, 7, 12}, {0, 3, 7, 12}, {0, 4, 7, 12}, {1, 1, 60, 67}, {1, 3, 60, 67}, {2, 2, 5, 19}, {2, 3, 7, 17}, {3, 1, 5, 0}, {4, 6, 33, 0}, {5, 20, 60, 0}, {6, 1, 14, 0},
		// Green from one part to the next one, and over the end of the cycle; always green.
		{7, 2, 12, 12}, {7, 4, 5, 19}, {8, 2, 12, 12}, {8, 3, 7, 17}, {9, 1, 19, 0}, {9, 2, 7, 12},
	}
	for _, c := range cases {
		e := examples()[c.example]
		if green, wait := impl.GreenOf(e.l, e.p, c.id), impl.WaitOf(e.l, e.p, c.id); green != c.green || wait != c.wait {
			t.Errorf("%v, %v: GreenOf %d is %d, want %d; WaitOf is %d, want %d", e.l, e.p, c.id, green, c.green, wait, c.wait)
		}
	}
	for _, c := range append(examples(), somePlans(97, 60)...) {
		for _, one := range c.l {
			if got, want := impl.GreenOf(c.l, c.p, one.Id), len(greenSeconds(c.l, c.p, one.Id, 1)); got != want || got < impl.MinGreen {
				t.Errorf("GreenOf(%v, %v, %d) = %d; want %d", c.l, c.p, one.Id, got, want)
			}
			if got, want := impl.WaitOf(c.l, c.p, one.Id), longestGap(c.l, c.p, one.Id); got != want {
				t.Errorf("WaitOf(%v, %v, %d) = %d; want %d", c.l, c.p, one.Id, got, want)
			}
		}
	}
}

// A path that is green in several parts of a cycle waits longest between two of them, also over the end of the cycle.
func TestWaitOfSeveralParts(t *testing.T) {
	p := []impl.Part{part(5, 1), part(60, 2, 4), part(5, 1), part(7, 2, 3, 4)}
	// 1 is green in the seconds 0 to 4 and 70 to 74 of 89; with the parts in another order one of both waits goes over the end.
	for i := range p {
		turned := slices.Concat(p[i:], p[:i])
		if wait, green := impl.WaitOf(cross(), turned, 1), impl.GreenOf(cross(), turned, 1); wait != 65 || green != 10 || impl.Cycle(cross(), turned) != 89 {
			t.Errorf("%v: the path 1 waits %d and is green for %d", turned, wait, green)
		}
	}
}

func TestLightsAreNewMemory(t *testing.T) {
	for _, c := range slices.Concat(examples(), somePlans(98, 40), notPlans()) {
		for _, second := range []int{-1, 0, 5, 1000000} {
			first, second2 := impl.LightsAt(c.l, c.p, second), impl.LightsAt(c.l, c.p, second)
			want := slices.Clone(second2)
			spoil(first)
			if third := impl.LightsAt(c.l, c.p, second); !slices.Equal(second2, want) || !slices.Equal(third, want) {
				t.Errorf("LightsAt(%v, %v, %d): a write to a result changes %v to %v, and the next one to %v", c.l, c.p, second, want, second2, third)
			}
		}
		wantUntouchedPlan(t, "a function of lights", c, func(l []impl.Path, p []impl.Part) {
			lights, whole := roomy([]int{0, 1, 0, 2}, 1, 77)
			impl.IsSafeLights(l, lights)
			if !slices.Equal(whole, []int{0, 1, 0, 2, 1, 77}) {
				t.Errorf("IsSafeLights of %v changes its lights to %v", l, whole)
			}
			spoil(impl.LightsAt(l, p, 5))
			impl.LightAt(l, p, 5, 1)
			impl.PartAt(l, p, 5)
			impl.GreenOf(l, p, 1)
			impl.WaitOf(l, p, 1)
		})
	}
}
