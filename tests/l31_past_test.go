package tests

import (
	"math"
	"math/rand"
	"slices"
	"strings"
	"testing"

	"loop.example/g03006/impl"
)

// historyOf returns a history of which a text has the lights of each second as a word of digits.
func historyOf(text string) [][]int {
	var h [][]int
	for _, word := range strings.Fields(text) {
		var lights []int
		for _, digit := range word {
			lights = append(lights, int(digit-'0'))
		}
		h = append(h, lights)
	}
	return h
}

// isSafeHistory is the oracle for IsSafeHistory of a list of paths for which ArePaths holds: it looks back from each second at
// which something opens to all seconds before.
func isSafeHistory(l []impl.Path, h [][]int) bool {
	for s, lights := range h {
		if !areSafe(l, lights) {
			return false
		}
		for i, p := range l {
			if lights[i] != 1 || s > 0 && h[s-1][i] == 1 {
				continue
			}
			for t, before := range h[:s] {
				for j, other := range l {
					if before[j] == 1 && collide(p, other) && s-t <= clearSeconds(other) {
						return false
					}
				}
			}
		}
	}
	return true
}

// planHistory is the oracle for PlanHistory of a plan, from a second and for seconds that are in range.
func planHistory(c planned, from int, seconds int) [][]int {
	var h [][]int
	for second := range seconds {
		var lights []int
		for _, p := range c.l {
			lights = append(lights, lightOf(c.l, c.p, from+second, p.Id))
		}
		h = append(h, lights)
	}
	return h
}

// askHistory is the oracle for AskHistory of what is valid.
func askHistory(c asked, calls []impl.Call, seconds int) [][]int {
	var h [][]int
	for second := range seconds {
		h = append(h, lightsOf(c.l, c.x))
		for _, one := range calls {
			if one.At == second {
				c.w = withWant(c.l, c.w, one.Path)
			}
		}
		c.x, c.w = stepAsk(c)
	}
	return h
}

// withWant is the oracle for AddWant of what is valid.
func withWant(l []impl.Path, w []impl.Want, path int) []impl.Want {
	if !hasPath(l, path) || slices.ContainsFunc(w, func(one impl.Want) bool { return one.Path == path }) {
		return w
	}
	more := append(slices.Clone(w), want(path, 0))
	slices.SortFunc(more, func(a impl.Want, b impl.Want) int { return a.Path - b.Path })
	return more
}

// lastGreen is the oracle for LastGreen, and waitedFor that for WaitedFor.
func lastGreen(h [][]int, index int) int {
	last := -1
	for i, lights := range h {
		for j, light := range lights {
			if j == index && light == 1 {
				last = i
			}
		}
	}
	return last
}

func waitedFor(h [][]int, index int) int {
	longest := 0
	for from := range h {
		for until := from; until < len(h) && lastGreen(h[from:until+1], index) < 0; until++ {
			longest = max(longest, until+1-from)
		}
	}
	return longest
}

// busAndCar are two paths that cross, of which the bus clears for longer, and carAndWalk are two of which the walk does.
func busAndCar() []impl.Path { return []impl.Path{bus(1, 0, 2), car(2, 1, 3)} }

func carAndWalk() []impl.Path { return []impl.Path{car(1, 0, 2), walk(2, 0)} }

func TestIsSafeHistory(t *testing.T) {
	two := cross()[:2]
	cases := []struct {
		l    []impl.Path
		h    string
		want bool
	}{
		// No history, and histories of one second.
		{two, "", true}, {nil, "", true}, {cross(), "", true}, {two, "00", true}, {two, "10", true}, {two, "01", true}, {two, "20", true}, {two, "11", false}, {two, "12", false}, {two, "22", false}, {two, "30", false}, {cross(), "0111", true}, {cross(), "1001", false},
		// A list that is not safe: first, between and last; one with a light too few and one too many, or none.
		{two, "11 00 00 00", false}, {two, "00 12 00 00", false}, {two, "00 00 00 21", false}, {two, "1 10 10", false}, {two, "10 1 10", false}, {two, "10 10 1", false}, {two, "100 10", false}, {two, "10 100", false}, {two, "10 103", false}, {two, "10 13", false}, {cross(), "1000 100", false}, {cross(), "1000 10000", false},
		// Just when what conflicts has cleared, one second sooner and one later: a car, a bus and a walk.
		{two, "10 20 20 01", true}, {two, "10 20 01", false}, {two, "10 20 20 00 01", true}, {two, "10 01", false}, {two, "10 00 00 01", true}, {two, "10 00 01", false}, {two, "01 02 02 10", true}, {two, "01 02 10", false},
		{busAndCar(), "10 20 20 20 01", true}, {busAndCar(), "10 20 20 01", false}, {busAndCar(), "10 20 20 20 00 01", true}, {busAndCar(), "01 02 02 10", true}, {busAndCar(), "01 02 10", false},
		{carAndWalk(), "01 02 02 02 02 02 10", true}, {carAndWalk(), "01 02 02 02 02 10", false}, {carAndWalk(), "01 00 00 00 00 00 00 10", true}, {carAndWalk(), "10 20 20 01", true}, {carAndWalk(), "10 20 01", false},
		// From the second 0 on, and later without anything before.
		{two, "10 10 10", true}, {two, "01 01 01 02 02 10 10", true}, {two, "00 10 10", true}, {two, "00 00 00 01", true},
		// The same path again behind a break, and what conflicts behind that.
		{two, "10 00 10", true}, {two, "10 20 10", true}, {two, "10 00 10 00 00 01", true}, {two, "10 00 10 00 01", false}, {two, "10 00 00 10 00 01", false}, {two, "10 20 20 01 02 02 10", true}, {two, "10 20 20 01 02 10", false}, {two, "10 20 20 01 02 01", true}, {two, "10 20 20 20 01 01 01 02 02 10", true},
		// What was never green, but clears, does not count; nor does what does not conflict.
		{two, "20 01", true}, {two, "20 20 01 00", true}, {cross(), "0100 0011", true}, {cross(), "0110 0011 0001 0101", true}, {cross(), "0010 0020 0020 0020 0020 1000", false}, {cross(), "0010 0020 0020 0020 0020 0020 1000", true}, {cross(), "0110 0010 0000 0000 0000 0000 1000", false}, {cross(), "0110 0010 0000 0000 0000 0000 0000 1000", true},
		// Of several that conflict the last one decides.
		{cross(), "0001 0100 0000 1000", false}, {cross(), "0001 0100 0000 0000 1000", true}, {cross(), "0010 0001 0000 0000 0000 0000 1000", true}, {cross(), "0100 0001 0000 0000 1000", false}, {cross(), "0010 0001 0000 0000 0000 1000", false},
	}
	for _, c := range cases {
		if got := impl.IsSafeHistory(c.l, historyOf(c.h)); got != c.want || got != isSafeHistory(c.l, historyOf(c.h)) {
			t.Errorf("IsSafeHistory(%v, %s) = %v; want %v, or %v", c.l, c.h, got, c.want, isSafeHistory(c.l, historyOf(c.h)))
		}
	}
	// Lists without lights, and lights that are no light.
	if !impl.IsSafeHistory(nil, [][]int{nil, {}, nil}) || impl.IsSafeHistory(nil, [][]int{nil, {0}}) || impl.IsSafeHistory(two, [][]int{nil}) || impl.IsSafeHistory(two, [][]int{{0, 0}, {}}) {
		t.Error("lists without lights")
	}
	for _, n := range around(0, 2) {
		if got := impl.IsSafeHistory(two, [][]int{{0, 0}, {0, n}}); got != (n >= 0 && n <= 2) {
			t.Errorf("IsSafeHistory with the light %d is %v", n, got)
		}
	}
	for _, l := range notCrossings() {
		if impl.IsSafeHistory(l, nil) || impl.IsSafeHistory(l, [][]int{make([]int, len(l))}) {
			t.Errorf("IsSafeHistory(%v) is true", l)
		}
	}
}

// withFault returns a copy of a history in which something was changed, so that most often it is not safe any more.
func withFault(source *rand.Rand, h [][]int) [][]int {
	changed := copyStages(h)
	at := source.Intn(len(h))
	switch source.Intn(5) {
	case 0:
		if len(h[at]) > 0 {
			changed[at][source.Intn(len(h[at]))] = source.Intn(4) - source.Intn(2)
		}
	case 1:
		changed = slices.Delete(changed, at, min(at+1+source.Intn(3), len(h)))
	case 2:
		changed = slices.Insert(changed, at, slices.Clone(h[source.Intn(len(h))]))
	case 3:
		changed[at] = append(changed[at], 0)
	case 4:
		// At these seconds what is green is shown as red.
		for _, lights := range changed[at:min(at+1+source.Intn(4), len(h))] {
			for i, light := range lights {
				lights[i] = light &^ 1
			}
		}
	}
	return changed
}

// Promise 31: nothing opens before what conflicts has cleared: what plans and controllers show is a safe history, and what is
// changed in one is found.
func TestNothingOpensBeforeWhatConflictsHasCleared(t *testing.T) {
	source := rand.New(rand.NewSource(311))
	safe, unsafe := 0, 0
	check := func(l []impl.Path, h [][]int) {
		if !impl.IsSafeHistory(l, h) || !isSafeHistory(l, h) {
			t.Fatalf("IsSafeHistory(%v, %v) is false", l, h)
		}
		for range 12 {
			if len(h) == 0 {
				return
			}
			changed := withFault(source, h)
			got := impl.IsSafeHistory(l, changed)
			if got != isSafeHistory(l, changed) {
				t.Fatalf("IsSafeHistory(%v, %v) = %v", l, changed, got)
			}
			if got {
				safe++
			} else {
				unsafe++
			}
		}
	}
	for _, c := range append(examples(), somePlans(312, 80)...) {
		check(c.l, impl.PlanHistory(c.l, c.p, source.Intn(300), source.Intn(160)))
	}
	for _, c := range someAsked(313, 80) {
		check(c.l, impl.AskHistory(c.l, c.x, c.w, drawAsking(source, c.l, 120), source.Intn(120)))
	}
	if safe < 1000 || unsafe < 1000 {
		t.Error(safe, unsafe)
	}
}

func TestPlanHistory(t *testing.T) {
	e := examples()[0]
	if got, want := impl.PlanHistory(e.l, e.p, 4, 4), historyOf("1000 2000 2000 0111"); !sameStages(got, want) {
		t.Errorf("PlanHistory(%v, %v, 4, 4) = %v; want %v", e.l, e.p, got, want)
	}
	source := rand.New(rand.NewSource(314))
	for _, c := range append(examples(), somePlans(315, 60)...) {
		for _, from := range []int{0, 1, cycleOf(c.l, c.p), 99999, 100000, source.Intn(100001)} {
			seconds := []int{0, 1, 2, source.Intn(60), cycleOf(c.l, c.p)}[source.Intn(5)]
			if got, want := impl.PlanHistory(c.l, c.p, from, seconds), planHistory(c, from, seconds); !sameStages(got, want) {
				t.Errorf("PlanHistory(%v, %v, %d, %d) = %v; want %v", c.l, c.p, from, seconds, got, want)
			}
		}
	}
	for _, n := range append(around(0, 600), 99999, 100000, 100001) {
		want := 0
		if n >= 0 && n <= 600 {
			want = n
		}
		if got := impl.PlanHistory(e.l, e.p, 7, n); len(got) != want {
			t.Errorf("PlanHistory of %d seconds has %d lists", n, len(got))
		}
		want = 0
		if n >= 0 && n <= 100000 {
			want = 3
		}
		if got := impl.PlanHistory(e.l, e.p, n, 3); len(got) != want {
			t.Errorf("PlanHistory from %d on has %d lists", n, len(got))
		}
	}
	if got := impl.PlanHistory(e.l, e.p, 100000, 600); !sameStages(got, planHistory(e, 100000, 600)) {
		t.Errorf("PlanHistory from 100000 on for 600 seconds is %v", got)
	}
	for _, c := range notPlans() {
		if got := impl.PlanHistory(c.l, c.p, 0, 5); len(got) != 0 {
			t.Errorf("PlanHistory(%v, %v, 0, 5) = %v", c.l, c.p, got)
		}
	}
}

// drawAsking draws calls in no order, some of them of no path, before the beginning or behind the end.
func drawAsking(source *rand.Rand, l []impl.Path, seconds int) []impl.Call {
	var calls []impl.Call
	for range source.Intn(30) {
		calls = append(calls, call(l[source.Intn(len(l))].Id, source.Intn(seconds)))
	}
	for _, one := range []impl.Call{call(1, -1), call(2, math.MinInt), call(1, math.MaxInt), call(21, 0), call(0, 1), call(-3, 2), call(math.MaxInt, 3), call(l[0].Id, seconds), call(l[0].Id, seconds-1), call(l[0].Id, 0)} {
		if source.Intn(3) == 0 {
			calls = append(calls, one)
		}
	}
	source.Shuffle(len(calls), func(i int, j int) { calls[i], calls[j] = calls[j], calls[i] })
	return calls
}

func TestAskHistory(t *testing.T) {
	one := asked{steered{cross(), opened(0, 1)}, nil}
	late := asked{steered{cross(), opened(5, 1)}, []impl.Want{want(2, 3)}}
	green, clears := strings.Repeat("1000 ", 5), "2000 2000 "
	cases := []struct {
		c       asked
		calls   []impl.Call
		seconds int
		want    string
	}{
		{one, nil, 0, ""}, {one, nil, 1, "1000"}, {one, nil, 7, green + "1000 1000"}, {late, nil, 1, "1000"}, {late, nil, 4, "1000 2000 2000 0111"}, {late, []impl.Call{call(4, 0)}, 4, "1000 2000 2000 0111"},
		// A call at the second 0 counts from the first step on; the stage can end at 5.
		{one, []impl.Call{call(3, 0)}, 10, green + "1000 " + clears + "0111 0111"}, {one, []impl.Call{call(3, 4)}, 8, green + "1000 " + clears}, {one, []impl.Call{call(3, 5)}, 8, green + "1000 " + clears}, {one, []impl.Call{call(3, 6)}, 8, green + "1000 1000 2000"},
		// At the last second, and behind it.
		{one, []impl.Call{call(3, 7)}, 8, green + "1000 1000 1000"}, {one, []impl.Call{call(3, 8)}, 8, green + "1000 1000 1000"}, {one, []impl.Call{call(3, 7)}, 9, green + "1000 1000 1000 2000"},
		// In no order, two at one second, for no path, and below 0.
		{one, []impl.Call{call(3, 6), call(9, 0), call(4, 2), call(4, 2), call(2, 2), call(-1, 2)}, 8, green + "1000 " + clears}, {one, []impl.Call{call(3, -1), call(3, math.MinInt), call(3, math.MaxInt), call(0, 0), call(5, 0)}, 8, green + "1000 1000 1000"},
		// Who calls for what is open has passed at once, and the stage ends for others.
		{one, []impl.Call{call(1, 3), call(2, 3)}, 8, green + "1000 " + clears}, {one, []impl.Call{call(2, 4), call(1, 5)}, 9, green + "1000 1000 " + clears},
	}
	for _, c := range cases {
		got := impl.AskHistory(c.c.l, c.c.x, c.c.w, c.calls, c.seconds)
		if !sameStages(got, historyOf(c.want)) || !sameStages(got, askHistory(c.c, c.calls, c.seconds)) {
			t.Errorf("AskHistory(%v, %v, %d) = %v; want %s, or %v", c.c, c.calls, c.seconds, got, c.want, askHistory(c.c, c.calls, c.seconds))
		}
	}
	source := rand.New(rand.NewSource(316))
	for _, c := range someAsked(317, 100) {
		seconds := []int{0, 1, 2, source.Intn(90)}[source.Intn(4)]
		calls := drawAsking(source, c.l, seconds+1)
		if got, want := impl.AskHistory(c.l, c.x, c.w, calls, seconds), askHistory(c, calls, seconds); !sameStages(got, want) {
			t.Errorf("AskHistory(%v, %v, %d) = %v; want %v", c, calls, seconds, got, want)
		}
	}
	for _, n := range around(0, 600) {
		want := 0
		if n >= 0 && n <= 600 {
			want = n
		}
		if got := impl.AskHistory(late.l, late.x, late.w, nil, n); len(got) != want {
			t.Errorf("AskHistory of %d seconds has %d lists", n, len(got))
		}
	}
	for _, c := range notAsked() {
		for _, seconds := range []int{1, 5} {
			if got := impl.AskHistory(c.l, c.x, c.w, []impl.Call{call(1, 0), call(2, 0)}, seconds); len(got) != 0 {
				t.Errorf("AskHistory(%v, %d) = %v", c, seconds, got)
			}
		}
	}
}

func TestLastGreenAndWaitedFor(t *testing.T) {
	cases := []struct {
		h            string
		index        int
		last, waited int
	}{
		{"", 0, -1, 0}, {"1", 0, 0, 0}, {"0", 0, -1, 1}, {"2", 0, -1, 1}, {"10 00 01 20", 0, 0, 3}, {"10 00 01 20", 1, 2, 2}, {"01 01 01", 1, 2, 0}, {"01 01 01", 0, -1, 3}, {"00 10 00 00 10 00", 0, 4, 2}, {"00 00 00 10 00 10 00 00", 0, 5, 3}, {"10 00 10 00 00", 0, 2, 2}, {"00 20 10", 0, 2, 2},
		// An index of -1, of the last light and one more, in lists of different lengths.
		{"10 01 11", -1, -1, 3}, {"10 01 11", 1, 2, 1}, {"10 01 11", 2, -1, 3}, {"1 01 1 01 001 1", 1, 3, 2}, {"1 01 1 01 001 1", 2, 4, 4}, {"1 01 1 01 001 1", 0, 5, 2}, {"111 1 1 111 1", 2, 3, 2}, {"111 1 1 111 1", math.MinInt, -1, 5}, {"111 1 1 111 1", math.MaxInt, -1, 5}, {"111 1 1 111 1", 1 << 32, -1, 5},
	}
	for _, c := range cases {
		h := historyOf(c.h)
		if last, waited := impl.LastGreen(h, c.index), impl.WaitedFor(h, c.index); last != c.last || waited != c.waited {
			t.Errorf("of %s and %d LastGreen is %d and WaitedFor %d; want %d and %d", c.h, c.index, last, waited, c.last, c.waited)
		}
	}
	// Lists without lights, and numbers that are no light.
	odd := [][]int{nil, {math.MinInt, 1, math.MaxInt}, {}, {-1, 3, 1<<32 + 1}, nil}
	for index := -1; index <= 3; index++ {
		if last, waited := impl.LastGreen(odd, index), impl.WaitedFor(odd, index); last != lastGreen(odd, index) || waited != waitedFor(odd, index) {
			t.Errorf("of %v and %d LastGreen is %d and WaitedFor %d", odd, index, last, waited)
		}
	}
	source := rand.New(rand.NewSource(318))
	for range 600 {
		var h [][]int
		often := 1 + source.Intn(4)
		for range source.Intn(20) {
			lights := make([]int, source.Intn(4))
			for i := range lights {
				lights[i] = []int{0, 1, 2, 1, 1, -1}[source.Intn(often+2)]
			}
			h = append(h, lights)
		}
		for index := -1; index <= 4; index++ {
			if last, waited := impl.LastGreen(h, index), impl.WaitedFor(h, index); last != lastGreen(h, index) || waited != waitedFor(h, index) {
				t.Errorf("of %v and %d LastGreen is %d and WaitedFor %d; want %d and %d", h, index, last, waited, lastGreen(h, index), waitedFor(h, index))
			}
		}
	}
}

// wantOwnLists checks that a write to a list of a result changes neither its other lists nor another result.
func wantOwnLists(t *testing.T, name string, call func() [][]int) {
	t.Helper()
	want, other := copyStages(call()), call()
	for i := range want {
		lists := call()
		spoil(lists[i])
		for j := range want {
			if j != i && !slices.Equal(lists[j], want[j]) {
				t.Errorf("%s: a write to the list %d changes %v to %v", name, i, want[j], lists[j])
			}
		}
		clear(lists[:cap(lists)])
	}
	if !sameStages(other, want) || !sameStages(call(), want) {
		t.Errorf("%s: a write to a result changes %v to %v or %v", name, want, other, call())
	}
}

func TestHistoriesAreNewMemory(t *testing.T) {
	source := rand.New(rand.NewSource(319))
	for _, c := range slices.Concat(examples(), somePlans(320, 20), notPlans()[:30]) {
		wantUntouchedPlan(t, "PlanHistory", c, func(l []impl.Path, p []impl.Part) {
			wantOwnLists(t, "PlanHistory", func() [][]int { return impl.PlanHistory(l, p, 3, 20) })
		})
	}
	for _, c := range append(someAsked(321, 12), notAsked()[:40]...) {
		if len(c.l) == 0 {
			continue
		}
		wantUntouchedControl(t, "AskHistory", c.steered, func(l []impl.Path, x impl.Control) {
			wantUntouchedList(t, "AskHistory", c.w, want(3, 3), func(w []impl.Want) {
				wantUntouchedList(t, "AskHistory", drawAsking(source, c.l, 15), call(1, 2), func(calls []impl.Call) {
					wantOwnLists(t, "AskHistory", func() [][]int { return impl.AskHistory(l, x, w, calls, 15) })
				})
			})
		})
	}
	// The lists of a history are only looked at.
	for _, text := range []string{"10 20 20 01", "10 01", "1 10 100"} {
		var h, wholes [][]int
		for _, lights := range historyOf(text) {
			list, whole := roomy(lights, 1, 1)
			h, wholes = append(h, list), append(wholes, whole)
		}
		given, whole := roomy(h, []int{7}, nil)
		want, before := copyStages(wholes), copyStages(whole)
		wantUntouchedList(t, "IsSafeHistory", cross()[:2], car(5, 0, 1), func(l []impl.Path) { impl.IsSafeHistory(l, given) })
		impl.LastGreen(given, 1)
		impl.WaitedFor(given, 1)
		if !sameStages(wholes, want) || !sameStages(whole, before) {
			t.Errorf("%s becomes %v", text, wholes)
		}
	}
}
