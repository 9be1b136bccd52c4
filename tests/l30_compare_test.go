package tests

import (
	"math"
	"math/rand"
	"slices"
	"testing"

	"loop.example/g03006/impl"
)

func stream(path int, arrivals ...int) impl.Stream {
	return impl.Stream{Path: path, Arrivals: arrivals}
}

// areStreams is the oracle for AreStreams of a list of paths for which ArePaths holds.
func areStreams(l []impl.Path, s []impl.Stream) bool {
	for _, one := range s {
		if !hasPath(l, one.Path) || len(one.Arrivals) != len(s[0].Arrivals) || len(one.Arrivals) > 300 {
			return false
		}
		for _, n := range one.Arrivals {
			if n < 0 || n > 20 {
				return false
			}
		}
	}
	return len(s) <= 12
}

// streamWait is the oracle for StreamWait of a plan, and any stream.
func streamWait(c planned, s impl.Stream) int {
	total := 0
	if !hasPath(c.l, s.Path) || len(s.Arrivals) > 1000 {
		return 0
	}
	for _, n := range s.Arrivals {
		if n < 0 || n > 10000 {
			return 0
		}
	}
	for _, waiting := range queueRun(s.Arrivals, openIn(c, s.Path, 0, len(s.Arrivals))) {
		total += waiting
	}
	return total
}

// planWait is the oracle for PlanWait of a list of paths for which ArePaths holds.
func planWait(c planned, s []impl.Stream) int {
	if !areStreams(c.l, s) || !isPlan(c.l, c.p) {
		return -1
	}
	total := 0
	for _, one := range s {
		total += streamWait(c, one)
	}
	return total
}

// drawStreams draws streams of paths of l, also several for one path, with the same number of arrivals each.
func drawStreams(source *rand.Rand, l []impl.Path) []impl.Stream {
	var s []impl.Stream
	seconds := []int{0, 1, 300, 20 + source.Intn(60)}[source.Intn(4)]
	for range source.Intn(13) {
		one := stream(l[source.Intn(len(l))].Id)
		for range seconds {
			one.Arrivals = append(one.Arrivals, []int{0, 0, 0, 0, 1, 1, 2, 20}[source.Intn(5+source.Intn(4))])
		}
		s = append(s, one)
	}
	return s
}

// twelveStreams are MaxPaths streams of cross, so that there are several for each path.
func twelveStreams() []impl.Stream {
	var s []impl.Stream
	for i := range 12 {
		s = append(s, stream(1+i%4, i, 0, 1))
	}
	return s
}

// notStreams are lists for cross of which AreStreams is false.
func notStreams() [][]impl.Stream {
	good := []impl.Stream{stream(1, 0, 2, 20), stream(3, 1, 1, 1), stream(1, 0, 0, 0)}
	lists := [][]impl.Stream{append(twelveStreams(), stream(1, 0, 0, 0)), {stream(1, make([]int, 301)...)}, {stream(1, make([]int, 5000)...)}, make([]impl.Stream, 1000), {{}}}
	bad := []impl.Stream{stream(9, 0, 0, 0), stream(0, 0, 0, 0), stream(5, 0, 0, 0), stream(-1, 0, 0, 0), stream(math.MinInt, 0, 0, 0), stream(math.MaxInt, 0, 0, 0), stream(1<<32+1, 0, 0, 0), stream(2, 0, 0), stream(2, 0, 0, 0, 0), stream(2), stream(2, make([]int, 300)...)}
	for _, n := range []int{-1, 21, 22, -20, math.MinInt, math.MaxInt, 1 << 32, 1<<32 + 5} {
		bad = append(bad, stream(2, n, 0, 0), stream(2, 0, n, 0), stream(2, 0, 0, n))
		lists = append(lists, []impl.Stream{stream(2, n)})
	}
	for _, one := range bad {
		for i := range len(good) + 1 {
			lists = append(lists, slices.Insert(slices.Clone(good), i, one))
		}
	}
	return lists
}

// goodStreams are lists for cross of which AreStreams is true.
func goodStreams() [][]impl.Stream {
	return [][]impl.Stream{
		nil, {}, {stream(1)}, {stream(1), stream(1), stream(4)}, {stream(3, 0)}, {stream(3, 20)}, {stream(2, 0, 20, 0)}, twelveStreams(), twelveStreams()[:11], {stream(1, make([]int, 300)...)}, {stream(4, make([]int, 299)...), stream(4, make([]int, 299)...)}, {stream(4, 1, 2), stream(4, 2, 1), stream(1, 0, 0)},
	}
}

func TestAreStreams(t *testing.T) {
	for _, s := range goodStreams() {
		if !impl.AreStreams(cross(), s) || !areStreams(cross(), s) {
			t.Errorf("AreStreams(%v) is false", s)
		}
	}
	for _, s := range notStreams() {
		if impl.AreStreams(cross(), s) || areStreams(cross(), s) {
			t.Errorf("AreStreams(%v) is true", s)
		}
	}
	for _, n := range around(0, 20) {
		for _, s := range [][]impl.Stream{{stream(2, n)}, {stream(2, 3), stream(1, n)}, {stream(n, 3)}, {stream(2, 0, n), stream(1, 0, 0)}} {
			if got := impl.AreStreams(cross(), s); got != areStreams(cross(), s) {
				t.Errorf("AreStreams(%v) = %v", s, got)
			}
		}
	}
	if !impl.AreStreams(nil, nil) || impl.AreStreams(nil, []impl.Stream{stream(1)}) {
		t.Error("no paths")
	}
	for _, l := range notCrossings() {
		for _, s := range [][]impl.Stream{nil, {stream(l[0].Id, 1)}, {stream(1)}} {
			if impl.AreStreams(l, s) || impl.PlanWait(l, []impl.Part{part(7, 1)}, s) != -1 {
				t.Errorf("AreStreams(%v, %v) is true, or PlanWait is not -1", l, s)
			}
		}
	}
}

func TestStreamWait(t *testing.T) {
	e := examples()
	cases := []struct {
		c    planned
		s    impl.Stream
		want int
	}{
		// 1 is open for 5 seconds of 19.
		{e[0], stream(1, 0, 0, 0, 2, 1, 1, 0), 1 + 1 + 2 + 2}, {e[0], stream(1, 1, 1, 1, 1, 1), 0}, {e[0], stream(1, 1, 1, 1, 1, 1, 1), 1}, {e[0], stream(2, 1, 0, 0, 0, 0, 0, 0, 0), 7}, {e[0], stream(1, 20), 19}, {e[0], stream(1), 0}, {e[0], stream(1, 0, 0, 0), 0},
		// A path that is always open.
		{e[3], stream(1, 1, 1, 1, 1, 1, 1, 1, 1), 0}, {e[3], stream(1, 3, 0, 0, 0), 2 + 1}, {e[4], stream(19, slices.Repeat([]int{1}, 300)...), 0},
		// A stream that is not valid alone: with more arrivals than it may have, with more in a second, and with what is no arrival.
		{e[0], stream(1, 21), 20}, {e[0], stream(1, 10000), 9999}, {e[0], stream(1, 10001), 0}, {e[0], stream(1, -1), 0}, {e[0], stream(1, 5, -1), 0}, {e[0], stream(1, 5, math.MinInt), 0}, {e[0], stream(1, math.MaxInt, 5), 0}, {e[0], stream(1, append(make([]int, 300), 3)...), streamWait(e[0], stream(1, append(make([]int, 300), 3)...))}, {e[0], stream(2, slices.Repeat([]int{1}, 1000)...), streamWait(e[0], stream(2, slices.Repeat([]int{1}, 1000)...))}, {e[0], stream(2, slices.Repeat([]int{1}, 1001)...), 0},
		// No such path, and no plan.
		{e[0], stream(9, 5), 0}, {e[0], stream(0, 5), 0}, {e[0], stream(-1, 5), 0}, {e[0], stream(math.MinInt, 5), 0}, {e[0], stream(math.MaxInt, 5), 0}, {planned{cross(), nil}, stream(1, 5), 0}, {planned{nil, nil}, stream(1, 5), 0},
	}
	for _, c := range cases {
		if got := impl.StreamWait(c.c.l, c.c.p, c.s); got != c.want {
			t.Errorf("StreamWait(%v, %v, %v) = %d; want %d", c.c.l, c.c.p, c.s, got, c.want)
		}
	}
	source := rand.New(rand.NewSource(301))
	for _, c := range append(examples(), somePlans(302, 60)...) {
		for _, s := range drawStreams(source, c.l) {
			if got, want := impl.StreamWait(c.l, c.p, s), streamWait(c, s); got != want {
				t.Errorf("StreamWait(%v, %v, %v) = %d; want %d", c.l, c.p, s, got, want)
			}
		}
	}
	for _, c := range notPlans() {
		for _, path := range []int{1, 2, 20, 0} {
			if got := impl.StreamWait(c.l, c.p, stream(path, 3, 2, 1)); got != 0 {
				t.Errorf("StreamWait(%v, %v) of %d is %d; there is no plan", c.l, c.p, path, got)
			}
		}
	}
}

func TestPlanWait(t *testing.T) {
	c := examples()[0]
	short := stream(1, 0, 0, 0, 2, 1, 1, 0)
	for want, s := range map[int][]impl.Stream{0: nil, 6: {short}, 12: {short, short}, 15: {short, stream(2, 0, 0, 0, 0, 0, 0, 1), stream(2, 0, 0, 0, 0, 0, 1, 0), short}} {
		if got := impl.PlanWait(c.l, c.p, s); got != want || got != planWait(c, s) {
			t.Errorf("PlanWait of %v is %d; want %d, or %d", s, got, want, planWait(c, s))
		}
	}
	for _, s := range goodStreams() {
		if got := impl.PlanWait(c.l, c.p, s); got != planWait(c, s) || got < 0 || impl.PlanWait(c.l, c.p[:1], s) != -1 || impl.PlanWait(c.l, nil, s) != -1 {
			t.Errorf("PlanWait of %v is %d", s, got)
		}
	}
	for _, s := range notStreams() {
		if got := impl.PlanWait(c.l, c.p, s); got != -1 {
			t.Errorf("PlanWait of %v is %d", s, got)
		}
	}
	source := rand.New(rand.NewSource(303))
	for _, c := range append(examples(), somePlans(304, 60)...) {
		s := drawStreams(source, c.l)
		if got, want := impl.PlanWait(c.l, c.p, s), planWait(c, s); got != want || got < 0 {
			t.Errorf("PlanWait(%v, %v, %v) = %d; want %d", c.l, c.p, s, got, want)
		}
	}
	for _, c := range notPlans() {
		for _, s := range [][]impl.Stream{nil, {stream(1, 2)}, {stream(2)}} {
			if got := impl.PlanWait(c.l, c.p, s); got != -1 {
				t.Errorf("PlanWait(%v, %v, %v) = %d", c.l, c.p, s, got)
			}
		}
	}
	if impl.PlanWait(nil, nil, nil) != -1 {
		t.Error("no paths")
	}
}

func TestBetterPlan(t *testing.T) {
	l, a := cross(), examples()[0].p
	b := []impl.Part{part(20, 1), part(7, 2, 3, 4)}
	// It waits for as long as a.
	c := []impl.Part{part(5, 1), part(8, 2, 3, 4)}
	busy := []impl.Stream{stream(1, slices.Repeat([]int{1, 0}, 19)...)}
	few := []impl.Stream{stream(1, 0, 0, 0, 0, 1)}
	cases := []struct {
		plans [][]impl.Part
		s     []impl.Stream
		want  int
	}{
		{[][]impl.Part{a, b}, busy, 1}, {[][]impl.Part{b, a}, busy, 0}, {[][]impl.Part{a}, busy, 0}, {[][]impl.Part{a, b, b}, busy, 1}, {[][]impl.Part{a, b, a, b}, busy, 1},
		// Two plans with the same wait, and streams for which nobody waits.
		{[][]impl.Part{a, a}, busy, 0}, {[][]impl.Part{c, a}, few, 0}, {[][]impl.Part{a, c}, few, 0}, {[][]impl.Part{a, b, c}, nil, 0}, {[][]impl.Part{b, a}, []impl.Stream{stream(1)}, 0},
		// A plan that is none: first, between and last.
		{[][]impl.Part{nil, a}, busy, 1}, {[][]impl.Part{a[:1], a, b}, busy, 2}, {[][]impl.Part{b, nil, a}, busy, 0}, {[][]impl.Part{a, {}, b}, busy, 2}, {[][]impl.Part{a, b, b[1:]}, busy, 1}, {[][]impl.Part{nil, nil, nil, a}, busy, 3}, {[][]impl.Part{nil, a, b}, nil, 1},
		// None, and none that is one.
		{nil, busy, -1}, {[][]impl.Part{}, busy, -1}, {[][]impl.Part{nil}, busy, -1}, {[][]impl.Part{nil, a[:1], {{}}}, busy, -1}, {nil, nil, -1},
		// More plans than there are workers.
		{append(slices.Repeat([][]impl.Part{a}, 99), b, a), busy, 99}, {append(slices.Repeat([][]impl.Part{nil}, 17), a), busy, 17},
	}
	for _, c := range cases {
		if got := impl.BetterPlan(l, c.plans, c.s); got != c.want {
			t.Errorf("BetterPlan(%v, %v) = %d; want %d", c.plans, c.s, got, c.want)
		}
	}
	for _, s := range notStreams() {
		if got := impl.BetterPlan(l, [][]impl.Part{a, b}, s); got != -1 {
			t.Errorf("BetterPlan of %v is %d", s, got)
		}
	}
	for _, l := range notCrossings() {
		if got := impl.BetterPlan(l, [][]impl.Part{a, {part(7, l[0].Id)}, nil}, nil); got != -1 {
			t.Errorf("BetterPlan(%v) = %d", l, got)
		}
	}
}

// Promise 30: the better plan has the least wait, and is the first one that has; who does no plan at all has none.
func TestTheBetterPlanHasTheLeastWait(t *testing.T) {
	source := rand.New(rand.NewSource(305))
	later := 0
	for _, c := range append(examples(), somePlans(306, 150)...) {
		var plans [][]impl.Part
		for range source.Intn(20) {
			p := drawPlan(source, c.l)
			switch source.Intn(4) {
			case 0:
				lists := broken(c.p)
				p = lists[source.Intn(len(lists))]
			case 1:
				p = c.p
			}
			plans = append(plans, p)
		}
		s := drawStreams(source, c.l)
		got := impl.BetterPlan(c.l, plans, s)
		best := -1
		if got >= 0 {
			best = impl.PlanWait(c.l, plans[got], s)
		}
		for i, p := range plans {
			wait := impl.PlanWait(c.l, p, s)
			if wait != planWait(planned{c.l, p}, s) || (wait >= 0) != isPlan(c.l, p) {
				t.Fatalf("PlanWait(%v, %v, %v) = %d", c.l, p, s, wait)
			}
			if wait >= 0 && (got < 0 || wait < best || wait == best && i < got) || i == got && wait < 0 {
				t.Fatalf("BetterPlan(%v, %v, %v) = %d with %d, but %d has %d", c.l, plans, s, got, best, i, wait)
			}
		}
		if got > 0 {
			later++
		}
		for range 3 {
			if again := impl.BetterPlan(c.l, plans, s); again != got {
				t.Fatalf("BetterPlan(%v, %v, %v) is %d and then %d", c.l, plans, s, got, again)
			}
		}
	}
	if later < 40 {
		t.Error(later)
	}
}

func TestTotalArrivals(t *testing.T) {
	cases := []struct {
		s    []impl.Stream
		want int
	}{
		{nil, 0}, {[]impl.Stream{}, 0}, {[]impl.Stream{stream(1)}, 0}, {[]impl.Stream{stream(1, 0, 1, 2)}, 3}, {[]impl.Stream{stream(1, 5), stream(1, 6)}, 11}, {twelveStreams(), 66 + 12},
		// Below 0 and above 20, of streams of any length and any path.
		{[]impl.Stream{stream(0, -3, 40, 2)}, 22}, {[]impl.Stream{stream(9, 20, 21, -1, 19)}, 59}, {[]impl.Stream{stream(1, math.MinInt, math.MaxInt, math.MaxInt), stream(-5, 1<<32, -1<<32)}, 60}, {[]impl.Stream{stream(1, slices.Repeat([]int{20}, 5000)...), stream(1, 1)}, 100001},
	}
	for _, c := range cases {
		if got := impl.TotalArrivals(c.s); got != c.want {
			t.Errorf("TotalArrivals(%v) = %d; want %d", c.s, got, c.want)
		}
	}
}

func TestComparingLeavesItsArguments(t *testing.T) {
	source := rand.New(rand.NewSource(307))
	for _, c := range slices.Concat(examples(), somePlans(308, 30), notPlans()[:60]) {
		if len(c.l) == 0 {
			continue
		}
		var s []impl.Stream
		var wholes [][]int
		for _, one := range drawStreams(source, c.l) {
			arrivals, whole := roomy(one.Arrivals, 5, 77)
			s, wholes = append(s, stream(one.Path, arrivals...)), append(wholes, whole)
		}
		want := copyStages(wholes)
		same := func(a impl.Stream, b impl.Stream) bool {
			return a.Path == b.Path && slices.Equal(a.Arrivals, b.Arrivals)
		}
		given, whole := roomy(s, stream(7, 7), impl.Stream{})
		before := slices.Clone(whole)
		wantUntouchedPlan(t, "a function that compares", c, func(l []impl.Path, p []impl.Part) {
			plans, wholePlans := roomy([][]impl.Part{p, nil, p}, p, nil)
			impl.AreStreams(l, given)
			impl.PlanWait(l, p, given)
			impl.BetterPlan(l, plans, given)
			impl.TotalArrivals(given)
			for _, one := range given {
				impl.StreamWait(l, p, one)
			}
			if !samePlan(wholePlans[0], p) || wholePlans[1] != nil || !samePlan(wholePlans[2], p) || !samePlan(wholePlans[3], p) || wholePlans[4] != nil {
				t.Errorf("BetterPlan changes its plans to %v", wholePlans)
			}
		})
		if !sameStages(wholes, want) || !slices.EqualFunc(whole, before, same) {
			t.Errorf("changed: the streams %v to %v, or their arrivals to %v", before, whole, wholes)
		}
	}
}
