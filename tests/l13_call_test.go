package tests

import (
	"math"
	"math/rand"
	"slices"
	"strings"
	"testing"

	"loop.example/g03006/impl"
)

func call(path int, at int) impl.Call { return impl.Call{Path: path, At: at} }

func hasPath(l []impl.Path, id int) bool {
	return slices.ContainsFunc(l, func(p impl.Path) bool { return p.Id == id })
}

// nextGreen is the oracle for NextGreen of a plan: it looks at one second after the other.
func nextGreen(c planned, id int, from int) int {
	if !hasPath(c.l, id) || from < 0 || from > 100000 {
		return -1
	}
	for lightOf(c.l, c.p, from, id) != 1 {
		from++
	}
	return from
}

// waitingAt is the oracle for WaitingAt of a plan: it asks of each number whether it is the path of a call that waits.
func waitingAt(c planned, calls []impl.Call, second int) []int {
	var waiting []int
	for _, one := range calls {
		if one.At <= second && nextGreen(c, one.Path, one.At) > second && !slices.Contains(waiting, one.Path) {
			waiting = put(waiting, one.Path)
		}
	}
	return waiting
}

// drawCalls draws calls of paths, some twice, in no order; some of them, if it may be so, are never served.
func drawCalls(source *rand.Rand, c planned, unserved bool) []impl.Call {
	var calls []impl.Call
	cycle := cycleOf(c.l, c.p)
	for range source.Intn(9) {
		one := call(c.l[source.Intn(len(c.l))].Id, source.Intn(3*cycle))
		if unserved && source.Intn(6) == 0 {
			one = []impl.Call{call(one.Path, -1), call(one.Path, 100001), call(21, one.At), call(0, one.At), call(-1, one.At), call(one.Path, math.MinInt), call(one.Path, math.MaxInt), call(math.MaxInt, one.At), call(math.MinInt, math.MinInt)}[source.Intn(9)]
		}
		calls = append(calls, one)
	}
	return calls
}

func TestNextGreen(t *testing.T) {
	// Each row has what a path shows for a whole cycle, g for green, as in TestLightAt.
	cases := []struct {
		example, id int
		row         string
	}{
		{0, 1, "gggggcc............"}, {0, 2, ".......gggggggcc..."}, {0, 3, ".......gggggggccccc"}, {0, 4, ".......gggggggccc.."},
		// Always open.
		{3, 1, "ggggg"}, {6, 1, "gggggggggggggg"}, {9, 1, "ggggggggggggggggggg"},
		// In two parts one after the other, and in the last one and the first one: the green goes on over the end of the cycle.
		{7, 2, "ggggggggggggcc.........."}, {8, 2, "gggggggcc..........ggggg"}, {8, 4, "...................ggggg"},
	}
	for _, c := range cases {
		e := examples()[c.example]
		for from := range 3 * len(c.row) {
			want := from + strings.IndexByte((c.row + c.row)[from%len(c.row):], 'g')
			if got := impl.NextGreen(e.l, e.p, c.id, from); got != want {
				t.Errorf("NextGreen(%v, %v, %d, %d) = %d; want %d", e.l, e.p, c.id, from, got, want)
			}
		}
	}
	// The first, the last and the next second of greens of cross: car 1 from 0 to 4 of 19, walk 3 from 7 to 13.
	e := examples()[0]
	for _, c := range [][3]int{{1, 0, 0}, {1, 4, 4}, {1, 5, 19}, {1, 18, 19}, {1, 19, 19}, {1, 23, 23}, {1, 24, 38}, {3, 6, 7}, {3, 7, 7}, {3, 13, 13}, {3, 14, 26}, {2, 99999, 100004}, {2, 100000, 100004}, {1, 100000, 100000}, {1, 99990, 99997}} {
		if got := impl.NextGreen(e.l, e.p, c[0], c[1]); got != c[2] {
			t.Errorf("NextGreen(%v, %v, %d, %d) = %d; want %d", e.l, e.p, c[0], c[1], got, c[2])
		}
	}
}

func TestNextGreenOfDrawnPlans(t *testing.T) {
	source := rand.New(rand.NewSource(131))
	for _, c := range append(examples(), somePlans(132, 30)...) {
		cycle := cycleOf(c.l, c.p)
		seconds := append(around(0, 3), cycle-1, cycle, cycle+1, 2*cycle-1, 99998, 99999, 100000, 100001, 100002, 1000000, 1000001)
		for range 10 {
			seconds = append(seconds, source.Intn(100001))
		}
		for _, from := range seconds {
			for _, one := range c.l {
				if got, want := impl.NextGreen(c.l, c.p, one.Id, from), nextGreen(c, one.Id, from); got != want {
					t.Errorf("NextGreen(%v, %v, %d, %d) = %d; want %d", c.l, c.p, one.Id, from, got, want)
				}
			}
		}
		for _, id := range around(0, 20) {
			if got := impl.NextGreen(c.l, c.p, id, 3); got != nextGreen(c, id, 3) {
				t.Errorf("NextGreen(%v, %v, %d, 3) = %d", c.l, c.p, id, got)
			}
		}
	}
}

// Promise 13: whoever calls is served within the wait of the path, and some have to wait so long.
func TestWhoeverCallsIsServedWithinTheWaitOfThePath(t *testing.T) {
	for _, c := range append(examples(), somePlans(133, 30)...) {
		worst := 0
		for _, one := range c.l {
			wait, longest := impl.WaitOf(c.l, c.p, one.Id), 0
			var calls []impl.Call
			for from := range impl.Cycle(c.l, c.p) {
				at := impl.NextGreen(c.l, c.p, one.Id, from)
				if at < from || at-from > wait || impl.LightAt(c.l, c.p, at, one.Id) != impl.LtGreen || at > from && impl.LightAt(c.l, c.p, from, one.Id) == impl.LtGreen {
					t.Errorf("%v, %v: who calls for %d at %d is served at %d; the wait is %d", c.l, c.p, one.Id, from, at, wait)
				}
				longest = max(longest, at-from)
				calls = append(calls, call(one.Id, from))
			}
			if longest != wait || wait != longestGap(c.l, c.p, one.Id) || !impl.IsWithin(c.l, c.p, calls, wait) || impl.IsWithin(c.l, c.p, calls, wait-1) {
				t.Errorf("%v, %v: who calls for %d waits for %d at most; WaitOf is %d, IsWithin it is %v", c.l, c.p, one.Id, longest, wait, impl.IsWithin(c.l, c.p, calls, wait))
			}
			worst = max(worst, wait)
		}
		if got := impl.WorstWait(c.l, c.p); got != worst {
			t.Errorf("WorstWait(%v, %v) = %d; want %d", c.l, c.p, got, worst)
		}
	}
}

func TestWorstWait(t *testing.T) {
	for i, want := range []int{14, 67, 19, 0, 0, 0, 0, 19, 19, 12, 15} {
		c := examples()[i]
		if got := impl.WorstWait(c.l, c.p); got != want {
			t.Errorf("WorstWait(%v, %v) = %d; want %d", c.l, c.p, got, want)
		}
	}
}

// What is no plan serves nobody.
func TestCallsAtNoPlan(t *testing.T) {
	calls := []impl.Call{call(1, 0), call(2, 5), call(1, 100000), call(3, -1), call(9, 7)}
	for _, c := range notPlans() {
		for _, id := range []int{math.MinInt, -1, 0, 1, 2, 3, 4, 20, math.MaxInt} {
			for _, from := range []int{math.MinInt, -1, 0, 7, 100000, math.MaxInt} {
				if got := impl.NextGreen(c.l, c.p, id, from); got != -1 {
					t.Errorf("NextGreen(%v, %v, %d, %d) = %d", c.l, c.p, id, from, got)
				}
			}
		}
		if got := impl.ServedAt(c.l, c.p, calls); !slices.Equal(got, []int{-1, -1, -1, -1, -1}) {
			t.Errorf("ServedAt(%v, %v, %v) = %v", c.l, c.p, calls, got)
		}
		if impl.WorstWait(c.l, c.p) != 0 || impl.IsWithin(c.l, c.p, calls, math.MaxInt) || impl.IsWithin(c.l, c.p, calls[:1], 100) || !impl.IsWithin(c.l, c.p, nil, -1) {
			t.Errorf("%v, %v: WorstWait is %d, or calls are served, or no calls are not", c.l, c.p, impl.WorstWait(c.l, c.p))
		}
		for _, second := range []int{-1, 0, 4, 5, 100000, math.MaxInt} {
			if got := impl.WaitingAt(c.l, c.p, calls, second); len(got) != 0 {
				t.Errorf("WaitingAt(%v, %v, %v, %d) = %v", c.l, c.p, calls, second, got)
			}
		}
	}
}

func TestServedAt(t *testing.T) {
	e := examples()[0]
	cases := []struct {
		calls []impl.Call
		want  []int
	}{
		{nil, nil}, {[]impl.Call{}, nil}, {[]impl.Call{call(1, 5), call(3, 14), call(2, 7)}, []int{19, 26, 7}},
		// Two calls of one path, and of one second.
		{[]impl.Call{call(1, 5), call(1, 4), call(1, 5)}, []int{19, 4, 19}}, {[]impl.Call{call(4, 3), call(2, 3), call(3, 3), call(1, 3)}, []int{7, 7, 7, 3}},
		// Calls that are not served: the first one, the last one, and alone.
		{[]impl.Call{call(9, 0), call(1, 0)}, []int{-1, 0}}, {[]impl.Call{call(1, 0), call(1, -1)}, []int{0, -1}}, {[]impl.Call{call(1, 100001)}, []int{-1}}, {[]impl.Call{call(0, 0), {}, call(21, 3)}, []int{-1, -1, -1}},
		{[]impl.Call{call(1, math.MinInt), call(math.MinInt, 1), call(1, math.MaxInt), call(math.MaxInt, 1), call(1, 1), call(1, 1<<32), call(1<<32+1, 0)}, []int{-1, -1, -1, -1, 1, -1, -1}},
	}
	for _, c := range cases {
		if got := impl.ServedAt(e.l, e.p, c.calls); !slices.Equal(got, c.want) {
			t.Errorf("ServedAt(%v, %v, %v) = %v; want %v", e.l, e.p, c.calls, got, c.want)
		}
	}
	source := rand.New(rand.NewSource(134))
	for _, c := range append(examples(), somePlans(135, 200)...) {
		calls, want := drawCalls(source, c, true), []int{}
		for _, one := range calls {
			want = append(want, nextGreen(c, one.Path, one.At))
		}
		if got := impl.ServedAt(c.l, c.p, calls); !slices.Equal(got, want) {
			t.Errorf("ServedAt(%v, %v, %v) = %v; want %v", c.l, c.p, calls, got, want)
		}
	}
}

func TestIsWithin(t *testing.T) {
	e := examples()[0]
	three := []impl.Call{call(1, 5), call(3, 14), call(2, 7)}
	cases := []struct {
		calls []impl.Call
		bound int
		want  bool
	}{
		// Just the wait, and one less: for the first call, the last one, and alone.
		{three, 14, true}, {three, 13, false}, {[]impl.Call{three[2], three[1], three[0]}, 14, true}, {[]impl.Call{three[2], three[1], three[0]}, 13, false}, {three[:1], 14, true}, {three[:1], 13, false}, {three[1:], 12, true}, {three[1:], 11, false},
		{three, math.MaxInt, true}, {three, -1, false}, {three, math.MinInt, false},
		// No wait at all: at the first, and at the last second of a green.
		{three[2:], 0, true}, {three[2:], -1, false}, {three[2:], math.MinInt, false}, {[]impl.Call{call(1, 0), call(1, 4)}, 0, true}, {[]impl.Call{call(1, 0), call(1, 4), call(1, 5)}, 0, false}, {[]impl.Call{call(1, 99990)}, 6, false}, {[]impl.Call{call(1, 99990)}, 7, true},
		// No call.
		{nil, 0, true}, {nil, -1, true}, {[]impl.Call{}, math.MinInt, true},
		// Calls that are not served: first, last, in between, and alone.
		{[]impl.Call{call(9, 0), call(1, 0)}, 99, false}, {[]impl.Call{call(1, 0), call(9, 0)}, 99, false}, {[]impl.Call{call(1, 0), call(1, -1), call(1, 0)}, 99, false}, {[]impl.Call{call(9, 0)}, math.MaxInt, false}, {[]impl.Call{call(1, 100001)}, math.MaxInt, false}, {[]impl.Call{call(1, -1)}, 0, false}, {[]impl.Call{{}}, 0, false},
		{[]impl.Call{call(1, math.MinInt)}, math.MaxInt, false}, {[]impl.Call{call(1, math.MaxInt)}, math.MaxInt, false}, {[]impl.Call{call(1, math.MaxInt)}, 0, false}, {[]impl.Call{call(9, math.MaxInt)}, -1, false},
	}
	for _, c := range cases {
		if got := impl.IsWithin(e.l, e.p, c.calls, c.bound); got != c.want {
			t.Errorf("IsWithin(%v, %v, %v, %d) = %v", e.l, e.p, c.calls, c.bound, got)
		}
	}
	source := rand.New(rand.NewSource(136))
	for _, c := range append(examples(), somePlans(137, 200)...) {
		calls, longest, served := drawCalls(source, c, source.Intn(2) == 0), math.MinInt, true
		for _, one := range calls {
			at := nextGreen(c, one.Path, one.At)
			longest, served = max(longest, at-one.At), served && at >= 0
		}
		for _, bound := range append(around(0, 3), longest-1, longest, longest+1) {
			if got := impl.IsWithin(c.l, c.p, calls, bound); got != (served && (len(calls) == 0 || longest <= bound)) {
				t.Errorf("IsWithin(%v, %v, %v, %d) = %v", c.l, c.p, calls, bound, got)
			}
		}
	}
}

func TestWaitingAt(t *testing.T) {
	e := examples()[0]
	three := []impl.Call{call(3, 14), call(1, 5), call(2, 7)}
	cases := []struct {
		calls  []impl.Call
		second int
		want   []int
	}{
		// 1 waits from 5 to 18, 3 from 14 to 25, and 2 never does.
		{three, 4, nil}, {three, 5, []int{1}}, {three, 13, []int{1}}, {three, 14, []int{1, 3}}, {three, 18, []int{1, 3}}, {three, 19, []int{3}}, {three, 25, []int{3}}, {three, 26, nil}, {three, 27, nil}, {three, -1, nil}, {three, math.MinInt, nil}, {three, math.MaxInt, nil},
		// A call at a second that is green does not wait, not even at this second.
		{[]impl.Call{call(1, 4)}, 4, nil}, {[]impl.Call{call(1, 4)}, 5, nil}, {[]impl.Call{call(1, 0)}, 0, nil}, {[]impl.Call{call(2, 0)}, 0, []int{2}}, {[]impl.Call{call(2, 0)}, 6, []int{2}}, {[]impl.Call{call(2, 0)}, 7, nil},
		// Two calls of one path, of which one waits or both do; calls that are not in order of their paths.
		{[]impl.Call{call(1, 5), call(1, 6)}, 7, []int{1}}, {[]impl.Call{call(1, 4), call(1, 6)}, 6, []int{1}}, {[]impl.Call{call(1, 6), call(1, 4)}, 6, []int{1}}, {[]impl.Call{call(1, 6), call(1, 24)}, 25, []int{1}}, {[]impl.Call{call(1, 6), call(1, 5)}, 5, []int{1}},
		{[]impl.Call{call(4, 15), call(1, 15), call(3, 15), call(4, 16), call(1, 17), call(2, 18), call(4, 15)}, 18, []int{1, 2, 3, 4}}, {[]impl.Call{call(4, 0), call(3, 0), call(2, 0), call(4, 1), call(3, 1), call(4, 2)}, 3, []int{2, 3, 4}},
		{nil, 3, nil}, {[]impl.Call{}, 0, nil},
		// Calls that are not served wait at no second that is not negative.
		{[]impl.Call{call(9, 0), call(1, 5), call(1, -1), call(2, -5), call(3, math.MinInt), call(1, math.MaxInt), {}}, 6, []int{1}}, {[]impl.Call{call(9, 0), call(1, -1), call(1, 100001)}, 0, nil}, {[]impl.Call{call(9, 0), call(1, -1), call(1, 100001)}, math.MaxInt, nil}, {[]impl.Call{call(9, -1)}, -1, nil},
	}
	for _, c := range cases {
		if got := impl.WaitingAt(e.l, e.p, c.calls, c.second); !slices.Equal(got, c.want) {
			t.Errorf("WaitingAt(%v, %v, %v, %d) = %v; want %v", e.l, e.p, c.calls, c.second, got, c.want)
		}
	}
	source := rand.New(rand.NewSource(138))
	for _, c := range append(examples(), somePlans(139, 80)...) {
		calls := drawCalls(source, c, true)
		seconds := []int{math.MinInt, -1, 0, 1, 100000, 100001, math.MaxInt}
		for _, one := range calls {
			if one.At >= 0 && one.At <= 100000 && hasPath(c.l, one.Path) {
				green := nextGreen(c, one.Path, one.At)
				seconds = append(seconds, one.At-1, one.At, one.At+1, green-1, green, green+1)
			}
		}
		for _, second := range seconds {
			if got, want := impl.WaitingAt(c.l, c.p, calls, second), waitingAt(c, calls, second); !slices.Equal(got, want) {
				t.Errorf("WaitingAt(%v, %v, %v, %d) = %v; want %v", c.l, c.p, calls, second, got, want)
			}
		}
	}
}

func TestCallsLeaveTheirArguments(t *testing.T) {
	source := rand.New(rand.NewSource(140))
	for _, c := range slices.Concat(examples(), somePlans(141, 40), notPlans()) {
		plain := []impl.Call{call(3, 2), call(1, 5), call(3, 7), call(9, -1)}
		if impl.IsPlan(c.l, c.p) {
			plain = drawCalls(source, c, true)
		}
		calls, whole := roomy(plain, call(1, 2), call(77, 77))
		want := slices.Clone(whole)
		wantUntouchedPlan(t, "a function of calls", c, func(l []impl.Path, p []impl.Part) {
			impl.NextGreen(l, p, 1, 5)
			impl.WorstWait(l, p)
			impl.IsWithin(l, p, calls, 9)
			for name, list := range map[string]func() []int{
				"ServedAt":  func() []int { return impl.ServedAt(l, p, calls) },
				"WaitingAt": func() []int { return impl.WaitingAt(l, p, calls, 7) },
			} {
				first, second := list(), list()
				before := slices.Clone(second)
				spoil(first)
				if third := list(); !slices.Equal(second, before) || !slices.Equal(third, before) {
					t.Errorf("%s(%v, %v, %v): a write to a result changes %v to %v, and the next one to %v", name, l, p, calls, before, second, third)
				}
			}
		})
		if !slices.Equal(whole, want) {
			t.Errorf("changed: the calls %v to %v", want, whole)
		}
	}
}
