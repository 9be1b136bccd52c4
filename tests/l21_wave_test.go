package tests

import (
	"math"
	"math/rand"
	"slices"
	"testing"

	"loop.example/g03006/impl"
)

func window(from int, long int) impl.Window { return impl.Window{From: from, Long: long} }

// isWindow is the oracle for IsWindow.
func isWindow(w impl.Window, cycle int) bool {
	return cycle >= 1 && cycle <= 200 && w.From >= 0 && w.From < cycle && w.Long >= 0 && w.Long <= cycle
}

// openSeconds says of each second of a cycle whether a window is open.
func openSeconds(w impl.Window, cycle int) []bool {
	open := make([]bool, cycle)
	for i := range w.Long {
		open[(w.From+i)%cycle] = true
	}
	return open
}

// isOpenAt is the oracle for InWindow of a window.
func isOpenAt(w impl.Window, cycle int, offset int, second int) bool {
	return openSeconds(w, cycle)[((second-offset)%cycle+cycle)%cycle]
}

// bandOf is the oracle for Band of windows and numbers that are in range.
func bandOf(a impl.Window, b impl.Window, cycle int, travel int, offset int) int {
	here, there := openSeconds(a, cycle), openSeconds(b, cycle)
	count := 0
	for second, open := range here {
		if open && there[((second+travel-offset)%cycle+cycle)%cycle] {
			count++
		}
	}
	return count
}

// bestOffset is the oracle for BestOffset of windows and numbers that are in range.
func bestOffset(a impl.Window, b impl.Window, cycle int, travel int) int {
	best := 0
	for offset := 1; offset < cycle; offset++ {
		if bandOf(a, b, cycle, travel, offset) > bandOf(a, b, cycle, travel, best) {
			best = offset
		}
	}
	return best
}

// windowOf is the oracle for WindowOf of a path of a plan.
func windowOf(c planned, id int) (impl.Window, bool) {
	cycle := cycleOf(c.l, c.p)
	if cycle > 200 {
		return impl.Window{}, false
	}
	green := func(second int) bool { return lightOf(c.l, c.p, (second+cycle)%cycle, id) == 1 }
	for from := range cycle {
		if green(from) && !green(from-1) {
			long := 1
			for green(from + long) {
				long++
			}
			return window(from, long), true
		}
	}
	return window(0, cycle), true
}

// drawWindow returns a window of a cycle, at one of its ends or within it.
func drawWindow(source *rand.Rand, cycle int) impl.Window {
	return window([]int{0, cycle - 1, source.Intn(cycle), source.Intn(cycle)}[source.Intn(4)], []int{0, 1, cycle, cycle - 1, source.Intn(cycle + 1), source.Intn(cycle + 1)}[source.Intn(6)])
}

// drawCycle returns a cycle that windows can have.
func drawCycle(source *rand.Rand) int {
	return []int{1, 2, 3, 63, 64, 65, 128, 199, 200, 1 + source.Intn(12), 1 + source.Intn(200)}[source.Intn(11)]
}

// notWindows are windows with a cycle with which they are none.
func notWindows() []struct {
	w     impl.Window
	cycle int
} {
	type one = struct {
		w     impl.Window
		cycle int
	}
	list := []one{}
	for _, cycle := range []int{0, 201, -1, -20, 202, 1000, math.MinInt, math.MaxInt, 1<<32 + 20} {
		list = append(list, one{window(0, 0), cycle}, one{window(0, 1), cycle}, one{window(5, 6), cycle}, one{window(cycle-1, cycle), cycle})
	}
	for _, cycle := range []int{1, 20, 200} {
		for _, from := range []int{-1, cycle, cycle + 1, -cycle, math.MinInt, math.MaxInt, 1 << 32} {
			list = append(list, one{window(from, 1), cycle}, one{window(from, 0), cycle}, one{window(from, cycle), cycle})
		}
		for _, long := range []int{-1, cycle + 1, 2 * cycle * cycle, -cycle, math.MinInt, math.MaxInt, 1<<32 + 1} {
			list = append(list, one{window(0, long), cycle}, one{window(cycle-1, long), cycle})
		}
	}
	return list
}

func TestIsWindow(t *testing.T) {
	if impl.MaxCycle != 200 {
		t.Error(impl.MaxCycle)
	}
	for _, cycle := range around(1, 200) {
		for _, w := range []impl.Window{window(0, 0), window(0, 1), window(cycle-1, 0), window(cycle-1, cycle), window(cycle, 0), window(0, cycle+1), window(-1, 0), window(0, -1), window(cycle/2, cycle/2)} {
			if got := impl.IsWindow(w, cycle); got != isWindow(w, cycle) {
				t.Errorf("IsWindow(%v, %d) = %v", w, cycle, got)
			}
		}
	}
	for _, n := range around(0, 20) {
		if got := impl.IsWindow(window(n, 5), 20); got != (n >= 0 && n <= 19) {
			t.Errorf("IsWindow({%d, 5}, 20) = %v", n, got)
		}
		if got := impl.IsWindow(window(19, n), 20); got != (n >= 0 && n <= 20) {
			t.Errorf("IsWindow({19, %d}, 20) = %v", n, got)
		}
	}
	for _, c := range notWindows() {
		if impl.IsWindow(c.w, c.cycle) {
			t.Errorf("IsWindow(%v, %d) is true", c.w, c.cycle)
		}
	}
}

func TestInWindow(t *testing.T) {
	cases := []struct {
		w                     impl.Window
		cycle, offset, second int
		want                  bool
	}{
		// Over the end of the cycle of 20: 15 to 19, and 0 to 4.
		{window(15, 10), 20, 0, 14, false}, {window(15, 10), 20, 0, 15, true}, {window(15, 10), 20, 0, 19, true}, {window(15, 10), 20, 0, 20, true}, {window(15, 10), 20, 0, 24, true}, {window(15, 10), 20, 0, 25, false}, {window(15, 10), 20, 0, 0, true}, {window(15, 10), 20, 0, 4, true}, {window(15, 10), 20, 0, 5, false},
		// Later by an offset, and seconds before it.
		{window(15, 10), 20, 3, 17, false}, {window(15, 10), 20, 3, 18, true}, {window(15, 10), 20, 3, 7, true}, {window(15, 10), 20, 3, 8, false}, {window(15, 10), 20, 3, 2, true}, {window(15, 10), 20, 3, -2, true}, {window(15, 10), 20, 3, -3, false}, {window(15, 10), 20, -3, 12, true}, {window(15, 10), 20, -3, 11, false}, {window(15, 10), 20, 23, 18, true}, {window(15, 10), 20, 500, 15, true}, {window(15, 10), 20, 0, -5, true}, {window(15, 10), 20, 0, -6, false}, {window(15, 10), 20, 0, -15, false}, {window(15, 10), 20, 0, -16, true},
		// Never and always open.
		{window(7, 0), 20, 0, 7, false}, {window(7, 20), 20, 0, 6, true}, {window(7, 20), 20, 0, 7, true}, {window(0, 1), 1, 5, 9, true}, {window(0, 0), 1, 0, 0, false}, {window(0, 200), 200, 7, 1, true}, {window(199, 1), 200, 0, 199, true}, {window(199, 1), 200, 0, 198, false}, {window(199, 1), 200, 0, 0, false},
		// Both ends of the ranges: 1000000 is the second 10 of a cycle of 30, and -1000000 the second 20.
		{window(10, 1), 30, 0, 1000000, true}, {window(11, 1), 30, 0, 1000000, false}, {window(20, 1), 30, 0, -1000000, true}, {window(21, 1), 30, 0, -1000000, false}, {window(20, 1), 30, 1000000, 0, true}, {window(10, 1), 30, -1000000, 0, true}, {window(0, 1), 30, 1000000, 1000000, true}, {window(10, 1), 30, 1000000, -1000000, true}, {window(20, 1), 30, -1000000, 1000000, true}, {window(0, 1), 30, -1000000, -1000000, true},
		{window(0, 30), 30, 0, 1000001, false}, {window(0, 30), 30, 0, -1000001, false}, {window(0, 30), 30, 1000001, 0, false}, {window(0, 30), 30, -1000001, 0, false}, {window(0, 30), 30, 1000001, 1000001, false}, {window(0, 30), 30, math.MinInt, 0, false}, {window(0, 30), 30, 0, math.MinInt, false}, {window(0, 30), 30, math.MaxInt, math.MaxInt, false}, {window(0, 30), 30, 1 << 32, 0, false},
	}
	for _, c := range cases {
		if got := impl.InWindow(c.w, c.cycle, c.offset, c.second); got != c.want {
			t.Errorf("InWindow(%v, %d, %d, %d) = %v", c.w, c.cycle, c.offset, c.second, got)
		}
	}
	source := rand.New(rand.NewSource(207))
	for range 3000 {
		cycle := drawCycle(source)
		w := drawWindow(source, cycle)
		offset, second := source.Intn(2000001)-1000000, source.Intn(2000001)-1000000
		if source.Intn(2) == 0 {
			offset, second = source.Intn(3*cycle), source.Intn(3*cycle)
		}
		if got := impl.InWindow(w, cycle, offset, second); got != isOpenAt(w, cycle, offset, second) {
			t.Errorf("InWindow(%v, %d, %d, %d) = %v", w, cycle, offset, second, got)
		}
	}
	for _, c := range notWindows() {
		for second := range 25 {
			if impl.InWindow(c.w, c.cycle, 0, second) {
				t.Errorf("InWindow(%v, %d, 0, %d) is true", c.w, c.cycle, second)
			}
		}
	}
}

func TestBand(t *testing.T) {
	a, b := window(0, 8), window(5, 6)
	cases := []struct {
		a, b                        impl.Window
		cycle, travel, offset, want int
	}{
		{a, b, 20, 5, 0, 6}, {a, b, 20, 0, 0, 3}, {a, b, 20, 13, 0, 0}, {a, b, 20, 13, 10, 6}, {a, b, 20, 13, 8, 6}, {a, b, 20, 13, 7, 5}, {a, b, 20, 13, 11, 5}, {a, b, 20, 33, 28, 6}, {a, b, 20, 33, 8, 6},
		// Over the end of the cycle, and on both sides of a window.
		{window(15, 10), window(17, 5), 20, 0, 0, 5}, {window(15, 10), window(3, 6), 20, 0, 0, 2}, {window(15, 10), window(3, 14), 20, 0, 0, 4}, {window(10, 15), window(0, 15), 20, 0, 0, 10},
		// Never, always.
		{a, window(9, 0), 20, 0, 0, 0}, {window(9, 0), b, 20, 0, 0, 0}, {a, window(13, 20), 20, 7, 9, 8}, {window(3, 20), b, 20, 7, 9, 6}, {window(3, 20), window(8, 20), 20, 7, 9, 20}, {window(0, 1), window(0, 1), 1, 0, 0, 1}, {window(0, 200), window(0, 200), 200, 0, 0, 200}, {window(0, 4), window(10, 4), 20, 0, 0, 0}, {window(63, 2), window(64, 1), 200, 0, 0, 1}, {window(127, 3), window(127, 3), 200, 0, 0, 3},
		// Both ends of the ranges: 100000 is the second 10 of a cycle of 30.
		{window(0, 1), window(10, 1), 30, 100000, 0, 1}, {window(0, 1), window(20, 1), 30, 0, 100000, 1}, {window(0, 1), window(0, 1), 30, 100000, 100000, 1}, {window(0, 30), window(0, 30), 30, 100001, 0, 0}, {window(0, 30), window(0, 30), 30, 0, 100001, 0}, {window(0, 30), window(0, 30), 30, -1, 0, 0}, {window(0, 30), window(0, 30), 30, 0, -1, 0}, {window(0, 30), window(0, 30), 30, -1, -1, 0}, {window(0, 30), window(0, 30), 30, 100001, 100001, 0}, {window(0, 30), window(0, 30), 30, math.MinInt, 0, 0}, {window(0, 30), window(0, 30), 30, 0, math.MaxInt, 0}, {window(0, 30), window(0, 30), 30, math.MaxInt, math.MinInt, 0}, {window(0, 30), window(0, 30), 30, 1 << 32, 0, 0},
	}
	for _, c := range cases {
		if got := impl.Band(c.a, c.b, c.cycle, c.travel, c.offset); got != c.want {
			t.Errorf("Band(%v, %v, %d, %d, %d) = %d; want %d", c.a, c.b, c.cycle, c.travel, c.offset, got, c.want)
		}
	}
	source := rand.New(rand.NewSource(208))
	for range 3000 {
		cycle := drawCycle(source)
		a, b := drawWindow(source, cycle), drawWindow(source, cycle)
		travel, offset := []int{0, 100000, source.Intn(100001), source.Intn(cycle)}[source.Intn(4)], []int{0, 100000, source.Intn(100001), source.Intn(cycle)}[source.Intn(4)]
		if got, want := impl.Band(a, b, cycle, travel, offset), bandOf(a, b, cycle, travel, offset); got != want {
			t.Errorf("Band(%v, %v, %d, %d, %d) = %d; want %d", a, b, cycle, travel, offset, got, want)
		}
	}
}

func TestBestOffset(t *testing.T) {
	a, b := window(0, 8), window(5, 6)
	cases := []struct {
		a, b                impl.Window
		cycle, travel, want int
	}{
		// Of several offsets with the same band the first one, which can be 0.
		{a, b, 20, 5, 0}, {a, b, 20, 13, 8}, {a, b, 20, 0, 15}, {a, b, 20, 33, 8}, {a, b, 20, 6, 1}, {a, b, 20, 4, 0}, {a, b, 20, 3, 0}, {a, b, 20, 2, 17}, {b, a, 20, 0, 3}, {a, a, 20, 0, 0}, {a, a, 20, 1, 1}, {a, a, 20, 19, 19},
		// Always and never open.
		{window(9, 0), b, 20, 13, 0}, {a, window(9, 0), 20, 13, 0}, {window(9, 20), b, 20, 13, 0}, {window(19, 20), window(3, 20), 20, 13, 0}, {window(0, 1), window(0, 1), 1, 7, 0}, {window(0, 1), window(0, 1), 200, 199, 199}, {window(199, 1), window(0, 1), 200, 0, 199}, {window(15, 10), window(3, 10), 20, 0, 12},
		// Both ends of the range: 100000 is the second 10 of a cycle of 30.
		{window(0, 1), window(0, 1), 30, 100000, 10}, {window(0, 1), window(0, 1), 30, 100001, -1}, {window(0, 1), window(0, 1), 30, -1, -1}, {a, b, 20, math.MinInt, -1}, {a, b, 20, math.MaxInt, -1}, {a, b, 20, 1 << 32, -1},
	}
	for _, c := range cases {
		if got := impl.BestOffset(c.a, c.b, c.cycle, c.travel); got != c.want {
			t.Errorf("BestOffset(%v, %v, %d, %d) = %d; want %d", c.a, c.b, c.cycle, c.travel, got, c.want)
		}
	}
	source := rand.New(rand.NewSource(209))
	for range 400 {
		cycle := drawCycle(source)
		a, b, travel := drawWindow(source, cycle), drawWindow(source, cycle), source.Intn(100001)
		if got, want := impl.BestOffset(a, b, cycle, travel), bestOffset(a, b, cycle, travel); got != want {
			t.Errorf("BestOffset(%v, %v, %d, %d) = %d; want %d", a, b, cycle, travel, got, want)
		}
	}
}

// Where one of both is no window there is no band and no offset.
func TestBandsOfNoWindow(t *testing.T) {
	for _, c := range notWindows() {
		for _, other := range []impl.Window{window(0, 0), window(0, 1), c.w} {
			for _, ab := range [][2]impl.Window{{c.w, other}, {other, c.w}} {
				if band, offset, greatest := impl.Band(ab[0], ab[1], c.cycle, 0, 0), impl.BestOffset(ab[0], ab[1], c.cycle, 0), impl.GreatestBand(ab[0], ab[1], c.cycle); band != 0 || offset != -1 || greatest != 0 {
					t.Errorf("%v with a cycle of %d: Band is %d, BestOffset %d, GreatestBand %d", ab, c.cycle, band, offset, greatest)
				}
			}
		}
	}
}

func TestGreatestBand(t *testing.T) {
	cases := []struct {
		a, b        impl.Window
		cycle, want int
	}{
		{window(0, 8), window(5, 6), 20, 6}, {window(5, 6), window(0, 8), 20, 6}, {window(0, 8), window(5, 6), 8, 6}, {window(0, 8), window(5, 6), 7, 0}, {window(0, 8), window(5, 6), 5, 0}, {window(0, 0), window(5, 6), 20, 0}, {window(3, 20), window(5, 20), 20, 20}, {window(0, 200), window(199, 200), 200, 200}, {window(0, 8), window(5, 6), 201, 0}, {window(0, 8), window(5, 6), 0, 0}, {window(0, 1), window(0, 1), 1, 1},
	}
	for _, c := range cases {
		if got := impl.GreatestBand(c.a, c.b, c.cycle); got != c.want {
			t.Errorf("GreatestBand(%v, %v, %d) = %d; want %d", c.a, c.b, c.cycle, got, c.want)
		}
	}
}

// Promise 21: no offset of the cycle has a wider band than the best one, none before it has one as wide, and it is the greatest
// band that there can be.
func TestTheBestOffsetHasTheWidestBand(t *testing.T) {
	source := rand.New(rand.NewSource(210))
	for range 150 {
		cycle := drawCycle(source)
		a, b, travel := drawWindow(source, cycle), drawWindow(source, cycle), source.Intn(1000)
		best := impl.BestOffset(a, b, cycle, travel)
		widest := impl.Band(a, b, cycle, travel, best)
		if best < 0 || best >= cycle || widest != impl.GreatestBand(a, b, cycle) || widest != min(a.Long, b.Long) {
			t.Fatalf("BestOffset(%v, %v, %d, %d) = %d, with a band of %d", a, b, cycle, travel, best, widest)
		}
		for offset := range cycle + 20 {
			if band := impl.Band(a, b, cycle, travel, offset); band > widest || band == widest && offset < best {
				t.Fatalf("BestOffset(%v, %v, %d, %d) = %d, with a band of %d, but %d has %d", a, b, cycle, travel, best, widest, offset, band)
			}
		}
		met := 0
		for second := range cycle {
			if impl.InWindow(a, cycle, 0, second) && impl.InWindow(b, cycle, best, second+travel) {
				met++
			}
		}
		if met != widest {
			t.Fatalf("with %d, %v and %v meet at %d seconds of %d, %d later, not %d", best, a, b, met, cycle, travel, widest)
		}
	}
}

func TestWindowOf(t *testing.T) {
	list := examples()
	long := []impl.Part{part(60, 1), part(60, 2, 3, 4), part(59, 1), part(7, 2, 3, 4)}
	longer := []impl.Part{part(60, 1), part(60, 2, 3, 4), part(60, 1), part(7, 2, 3, 4)}
	// Path 2 is green over the end of the cycle, and between.
	again := []impl.Part{part(5, 2, 4), part(5, 1), part(7, 2, 3), part(5, 1), part(6, 2, 4)}
	cases := []struct {
		c    planned
		id   int
		want impl.Window
		ok   bool
	}{
		{list[0], 1, window(0, 5), true}, {list[0], 2, window(7, 7), true}, {list[0], 3, window(7, 7), true}, {list[0], 4, window(7, 7), true},
		// At the seconds from 0 on, in two parts one after the other, and in the last part and the first one.
		{list[7], 2, window(0, 12), true}, {list[7], 4, window(0, 5), true}, {list[7], 3, window(5, 7), true}, {list[7], 1, window(17, 5), true}, {list[8], 2, window(19, 12), true}, {list[8], 4, window(19, 5), true}, {list[8], 3, window(0, 7), true}, {planned{cross(), again}, 2, window(15, 7), true}, {planned{cross(), again}, 4, window(34, 11), true}, {planned{cross(), again}, 1, window(8, 5), true},
		// Always green.
		{list[3], 1, window(0, 5), true}, {list[6], 1, window(0, 14), true}, {list[5], 13, window(0, 60), true}, {list[9], 1, window(0, 19), true},
		// A cycle of just MaxCycle, and of one more; twice in a cycle.
		{planned{cross(), long}, 1, window(0, 60), true}, {planned{cross(), long}, 2, window(62, 60), true}, {planned{cross(), longer}, 1, impl.Window{}, false}, {planned{cross(), longer}, 3, impl.Window{}, false},
		// An Id that is no path's, and plans and paths that are none.
		{list[0], 0, impl.Window{}, false}, {list[0], 5, impl.Window{}, false}, {list[0], 9, impl.Window{}, false}, {list[0], -1, impl.Window{}, false}, {list[0], math.MinInt, impl.Window{}, false}, {list[0], math.MaxInt, impl.Window{}, false}, {list[0], 1<<32 + 1, impl.Window{}, false},
		{planned{cross(), nil}, 1, impl.Window{}, false}, {planned{nil, nil}, 0, impl.Window{}, false}, {planned{cross(), long[:1]}, 1, impl.Window{}, false},
	}
	for _, c := range cases {
		if got, ok := impl.WindowOf(c.c.l, c.c.p, c.id); ok != c.ok || got != c.want {
			t.Errorf("WindowOf(%v, %v, %d) = %v, %v; want %v, %v", c.c.l, c.c.p, c.id, got, ok, c.want, c.ok)
		}
	}
	if cycleOf(cross(), long) != 200 || cycleOf(cross(), longer) != 201 {
		t.Error(cycleOf(cross(), long), cycleOf(cross(), longer))
	}
	met := map[bool]int{}
	for _, c := range append(examples(), somePlans(211, 150)...) {
		for _, p := range c.l {
			want, can := windowOf(c, p.Id)
			met[can]++
			if got, ok := impl.WindowOf(c.l, c.p, p.Id); ok != can || got != want || ok && !impl.IsWindow(got, impl.Cycle(c.l, c.p)) {
				t.Errorf("WindowOf(%v, %v, %d) = %v, %v; want %v, %v", c.l, c.p, p.Id, got, ok, want, can)
			}
		}
	}
	if met[true] < 100 || met[false] < 20 {
		t.Error(met)
	}
	for _, c := range notPlans() {
		for id := range 21 {
			if got, ok := impl.WindowOf(c.l, c.p, id); ok || got != (impl.Window{}) {
				t.Errorf("WindowOf(%v, %v, %d) = %v, %v", c.l, c.p, id, got, ok)
			}
		}
	}
}

func TestWindowOfChangesNothing(t *testing.T) {
	for _, c := range slices.Concat(examples(), somePlans(212, 20), notPlans()) {
		wantUntouchedPlan(t, "WindowOf", c, func(l []impl.Path, p []impl.Part) {
			for id := range 6 {
				impl.WindowOf(l, p, id)
			}
		})
	}
}
