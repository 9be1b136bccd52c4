package tests

import (
	"math"
	"math/rand"
	"slices"
	"testing"

	"loop.example/g03006/impl"
)

func service(path int, green int, wait int, share int) impl.Service {
	return impl.Service{Path: path, Green: green, Wait: wait, Share: share}
}

// waits returns services with these Waits, for the paths from 1 on.
func waits(list ...int) []impl.Service {
	var s []impl.Service
	for i, wait := range list {
		s = append(s, service(i+1, 0, wait, 0))
	}
	return s
}

// serviceOf is the oracle for ServiceOf of a path of a plan.
func serviceOf(c planned, id int) impl.Service {
	green := len(greenSeconds(c.l, c.p, id, 1))
	return service(id, green, longestGap(c.l, c.p, id), 100*green/cycleOf(c.l, c.p))
}

// shareOfKind is the oracle for ShareOfKind of a plan.
func shareOfKind(c planned, kind int) int {
	total, count := 0, 0
	for _, p := range c.l {
		if p.Kind == kind {
			total, count = total+serviceOf(c, p.Id).Share, count+1
		}
	}
	return total / max(count, 1)
}

func TestServiceOf(t *testing.T) {
	e := examples()
	cases := []struct {
		c    planned
		want impl.Service
	}{
		// A Share that is rounded down: 500 by 19, 700 by 19.
		{e[0], service(1, 5, 14, 26)}, {e[0], service(2, 7, 12, 36)}, {e[0], service(3, 7, 12, 36)}, {e[0], service(4, 7, 12, 36)}, {e[1], service(1, 60, 67, 47)}, {e[1], service(4, 60, 67, 47)},
		// Paths that are always open.
		{e[3], service(1, 5, 0, 100)}, {e[4], service(19, 33, 0, 100)}, {e[6], service(1, 14, 0, 100)}, {e[9], service(1, 19, 0, 100)}, {e[9], service(2, 7, 12, 36)},
		// A path that is green in several parts.
		{e[7], service(2, 12, 12, 50)}, {e[7], service(4, 5, 19, 20)}, {e[8], service(2, 12, 12, 50)}, {planned{cross(), []impl.Part{part(5, 1), part(7, 2, 3), part(5, 1), part(5, 2, 4)}}, service(1, 10, 14, 29)},
	}
	for _, c := range cases {
		if got, ok := impl.ServiceOf(c.c.l, c.c.p, c.want.Path); !ok || got != c.want || got != serviceOf(c.c, c.want.Path) {
			t.Errorf("ServiceOf(%v, %v, %d) = %v, %v; want %v, or %v", c.c.l, c.c.p, c.want.Path, got, ok, c.want, serviceOf(c.c, c.want.Path))
		}
	}
	for _, c := range append(examples(), somePlans(322, 60)...) {
		for _, id := range append([]int{math.MinInt, -1, 0, 21, 1 << 32, 1<<32 + 1, math.MaxInt, 1 + len(c.l)}, impl.ConflictsOf(c.l, c.l[0].Id)...) {
			want, can := impl.Service{}, hasPath(c.l, id)
			if can {
				want = serviceOf(c, id)
			}
			if got, ok := impl.ServiceOf(c.l, c.p, id); ok != can || got != want {
				t.Errorf("ServiceOf(%v, %v, %d) = %v, %v; want %v, %v", c.l, c.p, id, got, ok, want, can)
			}
		}
	}
	for _, c := range notPlans() {
		for _, id := range []int{1, 2, 20, 0, -1} {
			if got, ok := impl.ServiceOf(c.l, c.p, id); ok || got != (impl.Service{}) {
				t.Errorf("ServiceOf(%v, %v, %d) = %v, %v", c.l, c.p, id, got, ok)
			}
		}
	}
}

func TestAllServices(t *testing.T) {
	for _, c := range append(examples(), somePlans(323, 100)...) {
		var want []impl.Service
		for _, p := range c.l {
			want = append(want, serviceOf(c, p.Id))
		}
		if got := impl.AllServices(c.l, c.p); !slices.Equal(got, want) {
			t.Errorf("AllServices(%v, %v) = %v; want %v", c.l, c.p, got, want)
		}
	}
	for _, c := range notPlans() {
		if got := impl.AllServices(c.l, c.p); len(got) != 0 {
			t.Errorf("AllServices(%v, %v) = %v", c.l, c.p, got)
		}
	}
}

func TestWorstServiceAndPromises(t *testing.T) {
	cases := []struct {
		s    []impl.Service
		path int
		// Just so long all wait at most.
		wait int
	}{
		{waits(3), 1, 3}, {waits(3, 5, 4), 2, 5}, {waits(5, 3, 4), 1, 5}, {waits(3, 4, 5), 3, 5},
		// Several with the same greatest Wait.
		{waits(5, 5), 1, 5}, {waits(3, 5, 4, 5), 2, 5}, {waits(0, 0, 0), 1, 0}, {waits(0, 3, 3), 2, 3},
		// Waits of 0 and below 0.
		{waits(0), 1, 0}, {waits(-5), 1, -5}, {waits(-5, -3, -4, -3), 2, -3}, {waits(-1, 0), 2, 0}, {waits(math.MinInt), 1, math.MinInt}, {waits(math.MinInt, math.MaxInt, 0), 2, math.MaxInt}, {waits(math.MaxInt, math.MinInt), 1, math.MaxInt}, {waits(math.MinInt, math.MinInt), 1, math.MinInt}, {waits(1, 1<<32), 2, 1 << 32},
		// Services that no plan has.
		{[]impl.Service{service(-7, 9, 4, 9), service(math.MaxInt, 1, 5, 1)}, math.MaxInt, 5}, {[]impl.Service{service(math.MinInt, 99, 4, -100), service(3, 1, 3, 1)}, math.MinInt, 4}, {[]impl.Service{{}}, 0, 0},
	}
	for _, c := range cases {
		if got := impl.WorstService(c.s); got != c.path {
			t.Errorf("WorstService(%v) = %d; want %d", c.s, got, c.path)
		}
		for _, wait := range []int{c.wait, max(c.wait, c.wait+1), math.MaxInt} {
			if !impl.Promises(c.s, wait) {
				t.Errorf("Promises(%v, %d) is false", c.s, wait)
			}
		}
		if c.wait > math.MinInt && (impl.Promises(c.s, c.wait-1) || impl.Promises(c.s, math.MinInt)) {
			t.Errorf("Promises(%v, %d) is true", c.s, c.wait-1)
		}
	}
	if impl.WorstService(nil) != 0 || impl.WorstService([]impl.Service{}) != 0 || !impl.Promises(nil, 0) || !impl.Promises(nil, -5) || !impl.Promises([]impl.Service{}, math.MinInt) || impl.Promises(waits(0), -1) {
		t.Error("no services, and a wait below 0")
	}
}

func TestShareOfKind(t *testing.T) {
	e := examples()
	cases := []struct {
		c          planned
		kind, want int
	}{
		// 26 and 36 by 2; several of one kind; a share that is rounded down.
		{e[0], impl.PtCar, 31}, {e[0], impl.PtWalk, 36}, {e[0], impl.PtBus, 36}, {e[4], impl.PtWalk, 100}, {e[5], impl.PtWalk, 100}, {e[9], impl.PtCar, (36 + 42) / 2}, {e[7], impl.PtCar, (20 + 50) / 2},
		{planned{[]impl.Path{car(1, 0, 2), car(2, 1, 3), car(3, 1, 0)}, []impl.Part{part(5, 1), part(6, 2, 3)}}, impl.PtCar, (33 + 40 + 40) / 3},
		// Kinds of which there are no paths, and numbers that are no kind.
		{e[3], impl.PtWalk, 0}, {e[3], impl.PtBus, 0}, {e[5], impl.PtCar, 0}, {e[0], 0, 0}, {e[0], 4, 0}, {e[0], -1, 0}, {e[0], math.MinInt, 0}, {e[0], math.MaxInt, 0}, {e[0], 1<<32 + 1, 0},
	}
	for _, c := range cases {
		if got := impl.ShareOfKind(c.c.l, c.c.p, c.kind); got != c.want || got != shareOfKind(c.c, c.kind) {
			t.Errorf("ShareOfKind(%v, %v, %d) = %d; want %d, or %d", c.c.l, c.c.p, c.kind, got, c.want, shareOfKind(c.c, c.kind))
		}
	}
	for _, c := range somePlans(324, 60) {
		for kind := range 5 {
			if got, want := impl.ShareOfKind(c.l, c.p, kind), shareOfKind(c, kind); got != want {
				t.Errorf("ShareOfKind(%v, %v, %d) = %d; want %d", c.l, c.p, kind, got, want)
			}
		}
	}
	for _, c := range notPlans() {
		for kind := range 5 {
			if got := impl.ShareOfKind(c.l, c.p, kind); got != 0 {
				t.Errorf("ShareOfKind(%v, %v, %d) = %d", c.l, c.p, kind, got)
			}
		}
	}
}

// Promise 32: what is promised to a path is kept, from each second on: it waits for no longer than its Wait, and in each cycle it
// is green for as long as Green says.
func TestWhatIsPromisedToAPathIsKept(t *testing.T) {
	source := rand.New(rand.NewSource(325))
	for _, c := range append(examples(), somePlans(326, 60)...) {
		cycle, services := impl.Cycle(c.l, c.p), impl.AllServices(c.l, c.p)
		worst := impl.WorstWait(c.l, c.p)
		if len(services) != len(c.l) || !impl.Promises(services, worst) || impl.Promises(services, worst-1) {
			t.Fatalf("AllServices(%v, %v) = %v; somebody waits %d", c.l, c.p, services, worst)
		}
		from := source.Intn(1000)
		history := impl.PlanHistory(c.l, c.p, from, min(3*cycle, 600))
		for i, one := range services {
			if again, ok := impl.ServiceOf(c.l, c.p, one.Path); !ok || again != one || one.Path != c.l[i].Id {
				t.Fatalf("ServiceOf(%v, %v, %d) = %v, %v, but of all it is %v", c.l, c.p, one.Path, again, ok, one)
			}
			if one.Path == impl.WorstService(services) && one.Wait != worst {
				t.Fatalf("%v, %v: the worst is %v, but somebody waits %d", c.l, c.p, one, worst)
			}
			greens := 0
			for second := range cycle {
				if at := impl.NextGreen(c.l, c.p, one.Path, from+second); at < 0 || at-from-second > one.Wait {
					t.Fatalf("%v, %v: %d is green at %d, not within %d", c.l, c.p, one.Path, at, one.Wait)
				} else if at == from+second {
					greens++
				}
			}
			if greens != one.Green || one.Share != 100*greens/cycle || 3*cycle <= 600 && impl.WaitedFor(history, i) != one.Wait {
				t.Fatalf("%v, %v: %v, but it is green for %d of %d and waits %d", c.l, c.p, one, greens, cycle, impl.WaitedFor(history, i))
			}
		}
	}
}

func TestServicesAreNewMemory(t *testing.T) {
	for _, c := range slices.Concat(examples(), somePlans(327, 30), notPlans()) {
		wantUntouchedPlan(t, "a function of services", c, func(l []impl.Path, p []impl.Part) {
			impl.ServiceOf(l, p, 1)
			impl.ShareOfKind(l, p, impl.PtCar)
			wantOwnList(t, "AllServices", service(7, 7, 7, 7), func() []impl.Service { return impl.AllServices(l, p) })
		})
	}
	wantUntouchedList(t, "WorstService or Promises", waits(3, 5, 4), service(9, 9, 9, 9), func(s []impl.Service) {
		impl.WorstService(s)
		impl.Promises(s, 4)
	})
}
