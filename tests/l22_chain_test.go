package tests

import (
	"math"
	"math/rand"
	"slices"
	"testing"

	"loop.example/g03006/impl"
)

// avenue is windows along a street, with a cycle, travel times and offsets.
type avenue struct {
	w               []impl.Window
	cycle           int
	travel, offsets []int
}

// areTravels is true for numbers from 0 to 100000.
func areTravels(list []int) bool {
	return !slices.ContainsFunc(list, func(n int) bool { return n < 0 || n > 100000 })
}

// canTry is true where ThroughBand and PairBands look at the windows at all.
func canTry(c avenue) bool {
	n := len(c.w)
	return n >= 1 && n <= 8 && len(c.travel) == n && len(c.offsets) == n && areTravels(c.travel) && areTravels(c.offsets)
}

// chainOffsets is the oracle for ChainOffsets.
func chainOffsets(c avenue) ([]int, bool) {
	n := len(c.w)
	if n < 1 || n > 8 || len(c.travel) != n || !areTravels(c.travel) {
		return nil, false
	}
	offsets := make([]int, n)
	for i, w := range c.w {
		if !isWindow(w, c.cycle) || i > 0 && c.travel[i] < c.travel[i-1] {
			return nil, false
		}
		if i > 0 {
			offsets[i] = (offsets[i-1] + bestOffset(c.w[i-1], w, c.cycle, c.travel[i]-c.travel[i-1])) % c.cycle
		}
	}
	return offsets, true
}

// metBy is at how many seconds of a cycle the windows from the index first to the index last are open, each with its offset
// at its travel time later.
func metBy(c avenue, first int, last int) int {
	count := 0
	for second := range min(max(c.cycle, 0), 1000) {
		open := true
		for i := first; i <= last; i++ {
			open = open && isWindow(c.w[i], c.cycle) && isOpenAt(c.w[i], c.cycle, c.offsets[i], second+c.travel[i])
		}
		if open {
			count++
		}
	}
	return count
}

// pairBands is the oracle for PairBands where the windows are looked at.
func pairBands(c avenue) []int {
	var bands []int
	for i := 1; i < len(c.w); i++ {
		bands = append(bands, metBy(c, i-1, i))
	}
	return bands
}

// drawAvenue returns windows of one cycle, with travel times that do not descend, and with any offsets.
func drawAvenue(source *rand.Rand, count int) avenue {
	c := avenue{cycle: drawCycle(source)}
	travel := source.Intn(50)
	for range count {
		w := drawWindow(source, c.cycle)
		if source.Intn(2) == 0 {
			w.Long = max(w.Long, c.cycle*3/4)
		}
		c.w, c.travel, c.offsets = append(c.w, w), append(c.travel, travel), append(c.offsets, []int{0, source.Intn(c.cycle), source.Intn(100001)}[source.Intn(3)])
		travel += []int{0, source.Intn(100), source.Intn(10000)}[source.Intn(3)]
	}
	return c
}

// someAvenues are of all lengths from 1 to MaxCrossings.
func someAvenues(seed int64, count int) []avenue {
	source := rand.New(rand.NewSource(seed))
	list := []avenue{
		{[]impl.Window{window(0, 10), window(3, 6), window(12, 8)}, 20, []int{0, 25, 40}, []int{0, 2, 6}},
		// Over the end of the cycle, always and never open, and all at once.
		{[]impl.Window{window(15, 10), window(17, 6), window(19, 9)}, 20, []int{7, 7, 7}, []int{0, 0, 0}}, {[]impl.Window{window(15, 10), window(4, 20), window(3, 0)}, 20, []int{0, 100000, 100000}, []int{100000, 0, 100000}}, {[]impl.Window{window(0, 1), window(0, 1)}, 1, []int{0, 1}, []int{5, 9}}, {[]impl.Window{window(199, 200), window(0, 200)}, 200, []int{0, 1}, []int{5, 9}},
		{[]impl.Window{window(5, 6)}, 20, []int{100000}, []int{100000}}, {[]impl.Window{window(5, 6)}, 20, []int{0}, []int{0}},
	}
	for i := range count {
		list = append(list, drawAvenue(source, 1+i%8))
	}
	return list
}

// withNumber returns a copy of list with another number at an index.
func withNumber(list []int, i int, n int) []int {
	changed := slices.Clone(list)
	changed[i] = n
	return changed
}

// brokenAvenues are avenues that are changed in one thing, so that some function refuses them.
func brokenAvenues() []avenue {
	c := someAvenues(0, 0)[0]
	long := avenue{cycle: 20}
	for i := range 9 {
		long.w, long.travel, long.offsets = append(long.w, window(0, 20)), append(long.travel, i), append(long.offsets, i)
	}
	list := []avenue{
		{}, {nil, 20, nil, nil}, {nil, 20, []int{0}, nil}, {nil, 20, nil, []int{0}}, long,
		{c.w, c.cycle, c.travel[:2], c.offsets}, {c.w, c.cycle, append(slices.Clone(c.travel), 50), c.offsets}, {c.w, c.cycle, nil, c.offsets}, {c.w, c.cycle, c.travel, c.offsets[:2]}, {c.w, c.cycle, c.travel, append(slices.Clone(c.offsets), 0)}, {c.w, c.cycle, c.travel, nil}, {c.w[:2], c.cycle, c.travel, c.offsets}, {c.w, c.cycle, c.travel[:2], c.offsets[:2]},
		// Travel times that descend.
		{c.w, c.cycle, []int{40, 25, 0}, c.offsets}, {c.w, c.cycle, []int{1, 0, 40}, c.offsets}, {c.w, c.cycle, []int{0, 25, 24}, c.offsets},
	}
	for i := range c.w {
		for _, n := range []int{-1, 100001, math.MinInt, math.MaxInt, 1 << 32} {
			list = append(list, avenue{c.w, c.cycle, withNumber(c.travel, i, n), c.offsets}, avenue{c.w, c.cycle, c.travel, withNumber(c.offsets, i, n)})
		}
		for _, one := range []impl.Window{window(20, 1), window(-1, 1), window(0, 21), window(0, -1), window(math.MinInt, math.MaxInt), window(math.MaxInt, math.MinInt)} {
			w := slices.Clone(c.w)
			w[i] = one
			list = append(list, avenue{w, c.cycle, c.travel, c.offsets}, avenue{[]impl.Window{one}, c.cycle, []int{0}, []int{0}})
		}
	}
	for _, cycle := range []int{0, -1, -20, 19, 201, 9, math.MinInt, math.MaxInt, 1<<32 + 20} {
		list = append(list, avenue{c.w, cycle, c.travel, c.offsets}, avenue{c.w[2:], cycle, []int{0}, []int{0}})
	}
	return list
}

func TestChainOffsets(t *testing.T) {
	three := []impl.Window{window(0, 10), window(3, 6), window(12, 8)}
	cases := []struct {
		w      []impl.Window
		cycle  int
		travel []int
		want   []int
	}{
		{three, 20, []int{0, 25, 40}, []int{0, 2, 6}}, {three, 20, []int{1000, 1025, 1040}, []int{0, 2, 6}}, {three, 20, []int{0, 0, 0}, []int{0, 0, 9}}, {three[:1], 20, []int{7}, []int{0}}, {three[:1], 20, []int{100000}, []int{0}}, {three[:1], 20, []int{0}, []int{0}},
		// Modulo the cycle: 15 and 15 more are 10.
		{[]impl.Window{window(0, 5), window(0, 5), window(0, 5)}, 20, []int{0, 15, 30}, []int{0, 15, 10}}, {[]impl.Window{window(0, 5), window(0, 5)}, 20, []int{0, 100000}, []int{0, 0}}, {[]impl.Window{window(0, 5), window(0, 5)}, 30, []int{0, 100000}, []int{0, 10}}, {[]impl.Window{window(199, 3), window(0, 3)}, 200, []int{5, 5}, []int{0, 199}},
		{[]impl.Window{window(0, 1), window(0, 1), window(0, 1), window(0, 1), window(0, 1), window(0, 1), window(0, 1), window(0, 1)}, 10, []int{1, 2, 4, 7, 11, 16, 22, 29}, []int{0, 1, 3, 6, 0, 5, 1, 8}},
	}
	for _, c := range cases {
		got, ok := impl.ChainOffsets(c.w, c.cycle, c.travel)
		if !ok || !slices.Equal(got, c.want) {
			t.Errorf("ChainOffsets(%v, %d, %v) = %v, %v; want %v", c.w, c.cycle, c.travel, got, ok, c.want)
		}
	}
	refused := 0
	for _, c := range append(someAvenues(213, 160), brokenAvenues()...) {
		want, can := chainOffsets(c)
		if got, ok := impl.ChainOffsets(c.w, c.cycle, c.travel); ok != can || !slices.Equal(got, want) {
			t.Errorf("ChainOffsets(%v, %d, %v) = %v, %v; want %v, %v", c.w, c.cycle, c.travel, got, ok, want, can)
		}
		if !can {
			refused++
		}
	}
	if refused < 60 {
		t.Error(refused)
	}
}

func TestThroughBand(t *testing.T) {
	c := someAvenues(0, 0)[0]
	cases := []struct {
		c    avenue
		want int
	}{
		{c, 6}, {avenue{c.w, 20, c.travel, []int{0, 0, 0}}, 0}, {avenue{c.w, 20, c.travel, []int{0, 2, 5}}, 5}, {avenue{c.w, 20, c.travel, []int{20, 102, 46}}, 6}, {avenue{c.w, 20, c.travel, []int{0, 1, 6}}, 5}, {avenue{c.w[:1], 20, []int{7}, []int{3}}, 10}, {avenue{c.w[:2], 20, []int{0, 25}, []int{0, 2}}, 6},
		// The times need not be in order here.
		{avenue{[]impl.Window{c.w[1], c.w[0], c.w[2]}, 20, []int{25, 0, 40}, []int{2, 0, 6}}, 6},
		// One that is never open, and one that is no window.
		{avenue{[]impl.Window{c.w[0], window(5, 0), c.w[2]}, 20, c.travel, c.offsets}, 0}, {avenue{[]impl.Window{c.w[0], window(20, 5), c.w[2]}, 20, c.travel, c.offsets}, 0}, {avenue{c.w, 19, c.travel, c.offsets}, metBy(avenue{c.w, 19, c.travel, c.offsets}, 0, 2)}, {avenue{c.w, 12, c.travel, c.offsets}, 0},
	}
	for _, k := range cases {
		if got := impl.ThroughBand(k.c.w, k.c.cycle, k.c.travel, k.c.offsets); got != k.want {
			t.Errorf("ThroughBand(%v) = %d; want %d", k.c, got, k.want)
		}
	}
	met := 0
	for _, c := range append(someAvenues(214, 400), brokenAvenues()...) {
		want := 0
		if canTry(c) {
			want = metBy(c, 0, len(c.w)-1)
		}
		got := impl.ThroughBand(c.w, c.cycle, c.travel, c.offsets)
		if got != want {
			t.Errorf("ThroughBand(%v) = %d; want %d", c, got, want)
		}
		if got > 0 && len(c.w) > 2 {
			met++
		}
	}
	if met < 30 {
		t.Error(met)
	}
}

func TestPairBands(t *testing.T) {
	c := someAvenues(0, 0)[0]
	none := window(20, 5)
	cases := []struct {
		c    avenue
		want []int
	}{
		{c, []int{6, 6}}, {avenue{c.w, 20, c.travel, []int{0, 1, 6}}, []int{5, 6}}, {avenue{c.w, 20, c.travel, []int{0, 0, 0}}, []int{4, 2}}, {avenue{c.w[:1], 20, []int{7}, []int{3}}, nil}, {avenue{c.w, 20, []int{25, 0, 40}, c.offsets}, pairBands(avenue{c.w, 20, []int{25, 0, 40}, c.offsets})},
		// What is no window is never open, with its neighbours on both sides.
		{avenue{[]impl.Window{none, c.w[1], c.w[2]}, 20, c.travel, c.offsets}, []int{0, 6}}, {avenue{[]impl.Window{c.w[0], none, c.w[2]}, 20, c.travel, c.offsets}, []int{0, 0}}, {avenue{[]impl.Window{c.w[0], c.w[1], none}, 20, c.travel, c.offsets}, []int{6, 0}}, {avenue{c.w, 0, c.travel, c.offsets}, []int{0, 0}}, {avenue{c.w, 201, c.travel, c.offsets}, []int{0, 0}}, {avenue{c.w, -7, c.travel, c.offsets}, []int{0, 0}},
	}
	for _, k := range cases {
		if got := impl.PairBands(k.c.w, k.c.cycle, k.c.travel, k.c.offsets); !slices.Equal(got, k.want) {
			t.Errorf("PairBands(%v) = %v; want %v", k.c, got, k.want)
		}
	}
	for _, c := range append(someAvenues(215, 400), brokenAvenues()...) {
		var want []int
		if canTry(c) {
			want = pairBands(c)
		}
		if got := impl.PairBands(c.w, c.cycle, c.travel, c.offsets); !slices.Equal(got, want) {
			t.Errorf("PairBands(%v) = %v; want %v", c, got, want)
		}
	}
}

// Promise 22: with the offsets of a street each crossing has the widest band with the one before that any offset could give it,
// and no street lets more seconds through than its least pair and its least window.
func TestEachCrossingHasTheWidestBandWithTheOneBefore(t *testing.T) {
	for _, c := range someAvenues(216, 160) {
		offsets, ok := impl.ChainOffsets(c.w, c.cycle, c.travel)
		if !ok || len(offsets) != len(c.w) || offsets[0] != 0 {
			t.Fatalf("ChainOffsets(%v, %d, %v) = %v, %v", c.w, c.cycle, c.travel, offsets, ok)
		}
		bands := impl.PairBands(c.w, c.cycle, c.travel, offsets)
		through := impl.ThroughBand(c.w, c.cycle, c.travel, offsets)
		if len(bands) != len(c.w)-1 || through > slices.Min(append(bands, c.cycle)) || through > impl.LeastWindow(c.w) {
			t.Fatalf("%v with %v: PairBands %v, ThroughBand %d, LeastWindow %d", c, offsets, bands, through, impl.LeastWindow(c.w))
		}
		for i, band := range bands {
			if band != min(c.w[i].Long, c.w[i+1].Long) || offsets[i+1] < 0 || offsets[i+1] >= c.cycle {
				t.Fatalf("%v with %v: the band before %d is %d", c, offsets, i+1, band)
			}
			for other := range c.cycle {
				if more := impl.PairBands(c.w, c.cycle, c.travel, withNumber(offsets, i+1, other))[i]; more > band {
					t.Fatalf("%v with %v: the band before %d is %d, and with %d it is %d", c, offsets, i+1, band, other, more)
				}
			}
		}
		// All later by the same time they meet in just as many seconds.
		shifted := impl.ShiftOffsets(offsets, 17, c.cycle)
		if impl.ThroughBand(c.w, c.cycle, c.travel, shifted) != through || !slices.Equal(impl.PairBands(c.w, c.cycle, c.travel, shifted), bands) {
			t.Fatalf("%v with %v is not as with %v", c, shifted, offsets)
		}
	}
}

func TestLeastWindow(t *testing.T) {
	cases := []struct {
		w    []impl.Window
		want int
	}{
		{nil, 0}, {[]impl.Window{}, 0}, {[]impl.Window{window(0, 5)}, 5}, {[]impl.Window{window(0, 5), window(9, 4), window(-3, 6)}, 4}, {[]impl.Window{window(0, 4), window(9, 5)}, 4}, {[]impl.Window{window(9, 5), window(0, 4)}, 4}, {[]impl.Window{window(9, 5), window(0, 0)}, 0}, {[]impl.Window{window(9, 5), window(0, -1)}, -1}, {[]impl.Window{window(9, -5), window(0, 7)}, -5}, {[]impl.Window{window(9, math.MaxInt)}, math.MaxInt}, {[]impl.Window{window(9, math.MaxInt), window(1, math.MinInt), window(2, 0)}, math.MinInt}, {make([]impl.Window, 100), 0},
	}
	for _, c := range cases {
		if got := impl.LeastWindow(c.w); got != c.want {
			t.Errorf("LeastWindow(%v) = %d; want %d", c.w, got, c.want)
		}
	}
}

func TestShiftOffsets(t *testing.T) {
	cases := []struct {
		offsets  []int
		n, cycle int
		want     []int
	}{
		{[]int{0, 5, 19}, 3, 20, []int{3, 8, 2}}, {[]int{0, 5, 19}, 0, 20, []int{0, 5, 19}}, {[]int{0, 5, 19}, -1, 20, []int{19, 4, 18}}, {[]int{0, 5, 19}, 20, 20, []int{0, 5, 19}}, {[]int{0, 5, 19}, 67, 20, []int{7, 12, 6}}, {[]int{0, 5, 19}, -67, 20, []int{13, 18, 12}}, {[]int{-1, 25, -40}, 0, 20, []int{19, 5, 0}}, {nil, 3, 20, nil}, {[]int{7, -7}, 1, 1, []int{0, 0}}, {[]int{199, 200}, 1, 200, []int{0, 1}},
		// Both ends of the ranges: 1000000 is the second 10 of a cycle of 30.
		{[]int{0, 5}, 1000000, 30, []int{10, 15}}, {[]int{0, 5}, -1000000, 30, []int{20, 25}}, {[]int{1000000, -1000000}, 0, 30, []int{10, 20}}, {[]int{1000000, -1000000}, 1000000, 30, []int{20, 0}}, {[]int{1000000, -1000000}, -1000000, 30, []int{0, 10}},
		// Out of range.
		{[]int{0, 35}, 1000001, 30, []int{0, 35}}, {[]int{0, 35}, -1000001, 30, []int{0, 35}}, {[]int{0, 35}, math.MinInt, 30, []int{0, 35}}, {[]int{0, 35}, math.MaxInt, 30, []int{0, 35}}, {[]int{0, 35}, 1 << 32, 30, []int{0, 35}}, {[]int{1000001, 35}, 3, 30, []int{1000001, 35}}, {[]int{35, 1000001}, 3, 30, []int{35, 1000001}}, {[]int{35, -1000001, 36}, 3, 30, []int{35, -1000001, 36}}, {[]int{35, math.MinInt}, 3, 30, []int{35, math.MinInt}}, {[]int{35, math.MaxInt}, 3, 30, []int{35, math.MaxInt}},
		{[]int{0, 35}, 3, 0, []int{0, 35}}, {[]int{0, 300}, 3, 201, []int{0, 300}}, {[]int{0, 35}, 3, -1, []int{0, 35}}, {[]int{0, 35}, 3, math.MinInt, []int{0, 35}}, {[]int{0, 35}, 3, math.MaxInt, []int{0, 35}}, {[]int{0, 35}, 3, 1<<32 + 20, []int{0, 35}}, {nil, 3, 0, nil},
	}
	for _, c := range cases {
		if got := impl.ShiftOffsets(c.offsets, c.n, c.cycle); !slices.Equal(got, c.want) {
			t.Errorf("ShiftOffsets(%v, %d, %d) = %v; want %v", c.offsets, c.n, c.cycle, got, c.want)
		}
	}
	// Any number of offsets can be shifted.
	if got := impl.ShiftOffsets(make([]int, 1000), 5, 3); len(got) != 1000 || slices.Min(got) != 2 || slices.Max(got) != 2 {
		t.Error(got)
	}
}

func TestChainsAreNewMemory(t *testing.T) {
	for _, c := range append(someAvenues(217, 40), brokenAvenues()...) {
		wantUntouchedList(t, "a function of windows", c.w, window(7, 7), func(w []impl.Window) {
			wantUntouchedList(t, "a function of travel times", c.travel, 77, func(travel []int) {
				wantUntouchedList(t, "a function of offsets", c.offsets, 88, func(offsets []int) {
					impl.ThroughBand(w, c.cycle, travel, offsets)
					impl.LeastWindow(w)
					wantOwnList(t, "ChainOffsets", -7, func() []int { list, _ := impl.ChainOffsets(w, c.cycle, travel); return list })
					wantOwnList(t, "PairBands", -7, func() []int { return impl.PairBands(w, c.cycle, travel, offsets) })
					for _, n := range []int{0, 5, 1000001} {
						wantOwnList(t, "ShiftOffsets", -7, func() []int { return impl.ShiftOffsets(offsets, n, c.cycle) })
					}
				})
			})
		})
	}
}
