package tests

import (
	"math"
	"math/rand"
	"slices"
	"testing"

	"loop.example/g03006/impl"
)

func street(from int, to int, seconds int) impl.Street {
	return impl.Street{From: from, To: to, Seconds: seconds}
}

// isCrossing is true for the numbers of crossings.
func isCrossing(n int) bool { return n >= 1 && n <= 8 }

// areStreets is the oracle for AreStreets.
func areStreets(l []impl.Street) bool {
	met := map[[2]int]bool{}
	for _, s := range l {
		if !isCrossing(s.From) || !isCrossing(s.To) || s.From == s.To || s.Seconds < 1 || s.Seconds > 300 {
			return false
		}
		met[[2]int{s.From, s.To}] = true
	}
	return len(met) == len(l) && len(l) <= 16
}

// travel is the oracle for Travel of streets and crossings: it tries all ways on which no crossing comes twice.
func travel(l []impl.Street, from int, to int) int {
	least := -1
	var walkOn func(way []int, seconds int)
	walkOn = func(way []int, seconds int) {
		last := way[len(way)-1]
		if last == to && (least < 0 || seconds < least) {
			least = seconds
		}
		for _, s := range l {
			if s.From == last && !slices.Contains(way, s.To) {
				walkOn(append(slices.Clone(way), s.To), seconds+s.Seconds)
			}
		}
	}
	walkOn([]int{from}, 0)
	return least
}

// chainTravel is the oracle for ChainTravel, with whether IsChain holds.
func chainTravel(l []impl.Street, chain []int) ([]int, bool) {
	if !areStreets(l) || len(chain) == 0 || len(chain) > 8 {
		return nil, false
	}
	seconds, total := []int{}, 0
	for i, crossing := range chain {
		if !isCrossing(crossing) || slices.Contains(chain[:i], crossing) {
			return nil, false
		}
		if i > 0 {
			n := slices.IndexFunc(l, func(s impl.Street) bool { return s.From == chain[i-1] && s.To == crossing })
			if n < 0 {
				return nil, false
			}
			total += l[n].Seconds
		}
		seconds = append(seconds, total)
	}
	return seconds, true
}

// ring is a circle of streets over all crossings, of 10, 20 .. 80 seconds.
func ring() []impl.Street {
	var l []impl.Street
	for i := 1; i <= 8; i++ {
		l = append(l, street(i, i%8+1, 10*i))
	}
	return l
}

// bothWays is the ring and, behind it, the ring the other way round: these are MaxStreets streets.
func bothWays() []impl.Street {
	l := ring()
	for i := 1; i <= 8; i++ {
		l = append(l, street(i%8+1, i, 7))
	}
	return l
}

// nets are lists of streets that the tests know.
func nets() [][]impl.Street {
	return [][]impl.Street{
		nil, {street(1, 2, 1)}, {street(8, 1, 300)}, {street(1, 2, 30), street(2, 3, 20), street(1, 3, 60), street(3, 1, 10), street(4, 1, 5)}, ring(), bothWays(),
		// One way of two streets, and one of four, are faster than the street itself; another one is just as fast.
		{street(1, 5, 100), street(1, 2, 40), street(2, 5, 40), street(3, 4, 7)}, {street(1, 5, 300), street(1, 2, 1), street(2, 3, 1), street(3, 4, 1), street(4, 5, 1), street(5, 1, 300)}, {street(2, 7, 60), street(2, 3, 30), street(3, 7, 30)},
		// Both ways between two crossings.
		{street(6, 7, 3), street(7, 6, 299)},
	}
}

// drawNet returns streets for which AreStreets holds.
func drawNet(source *rand.Rand) []impl.Street {
	var l []impl.Street
	crossings := 2 + source.Intn(7)
	for range source.Intn(20) {
		s := street(1+source.Intn(crossings), 1+source.Intn(crossings), []int{1, 300, 1 + source.Intn(300), 1 + source.Intn(10)}[source.Intn(4)])
		if areStreets(append(slices.Clone(l), s)) {
			l = append(l, s)
		}
	}
	return l
}

// someNets are lists of streets for which AreStreets holds.
func someNets(seed int64, count int) [][]impl.Street {
	source := rand.New(rand.NewSource(seed))
	list := nets()
	for range count {
		list = append(list, drawNet(source))
	}
	return list
}

// notNets are lists of streets of which one cannot be there.
func notNets() [][]impl.Street {
	good := []impl.Street{street(1, 2, 30), street(2, 3, 20)}
	bad := []impl.Street{street(1, 2, 30), street(1, 2, 31), street(2, 3, 1), {}, street(4, 4, 9), street(1, 1, 9), street(8, 8, 300)}
	for _, n := range []int{0, 9, -1, 10, math.MinInt, math.MaxInt, 1<<32 + 4} {
		bad = append(bad, street(n, 4, 9), street(4, n, 9), street(n, n, 9))
	}
	for _, seconds := range []int{0, 301, -1, -300, math.MinInt, math.MaxInt, 1<<32 + 30} {
		bad = append(bad, street(3, 4, seconds))
	}
	var list [][]impl.Street
	for _, s := range bad {
		for i := range len(good) + 1 {
			list = append(list, slices.Insert(slices.Clone(good), i, s))
		}
	}
	return append(list, append(bothWays(), street(1, 3, 5)), make([]impl.Street, 17), make([]impl.Street, 1000), slices.Concat(bothWays(), bothWays()))
}

func TestStreetLimits(t *testing.T) {
	if impl.MaxCrossings != 8 || impl.MaxStreets != 16 {
		t.Error(impl.MaxCrossings, impl.MaxStreets)
	}
}

func TestAreStreets(t *testing.T) {
	for _, l := range someNets(197, 200) {
		if !impl.AreStreets(l) || !areStreets(l) {
			t.Errorf("AreStreets(%v) is false", l)
		}
	}
	for _, l := range notNets() {
		if impl.AreStreets(l) || areStreets(l) {
			t.Errorf("AreStreets(%v) is true", l)
		}
	}
	for _, n := range around(1, 300) {
		if got := impl.AreStreets([]impl.Street{street(1, 2, n)}); got != (n >= 1 && n <= 300) {
			t.Errorf("AreStreets of a street with %d seconds is %v", n, got)
		}
		if got := impl.AreStreets([]impl.Street{street(n, 2, 9)}); got != (isCrossing(n) && n != 2) {
			t.Errorf("AreStreets of a street from %d is %v", n, got)
		}
		if got := impl.AreStreets([]impl.Street{street(2, n, 9)}); got != (isCrossing(n) && n != 2) {
			t.Errorf("AreStreets of a street to %d is %v", n, got)
		}
	}
}

func TestStreetsFrom(t *testing.T) {
	l := []impl.Street{street(1, 7, 30), street(2, 3, 20), street(1, 3, 60), street(3, 1, 10), street(1, 5, 5)}
	// Streets that cannot be there, the same To twice, and a crossing that is none.
	odd := []impl.Street{street(9, 4, 0), street(1, 4, -1), street(9, -3, 9), street(1, 4, 30), street(1, 1, 30), street(9, 4, 1), street(9, math.MinInt, 1), street(9, math.MaxInt, 1), street(math.MinInt, 6, 0), street(math.MaxInt, 0, 0)}
	cases := []struct {
		l    []impl.Street
		from int
		want []int
	}{
		{l, 1, []int{3, 5, 7}}, {l, 2, []int{3}}, {l, 3, []int{1}}, {l, 4, nil}, {l, 7, nil}, {l, 0, nil}, {l, 9, nil}, {l, -1, nil}, {l, math.MinInt, nil}, {l, math.MaxInt, nil}, {nil, 1, nil}, {l, 1<<32 + 1, nil},
		{odd, 9, []int{math.MinInt, -3, 4, math.MaxInt}}, {odd, 1, []int{1, 4}}, {odd, math.MinInt, []int{6}}, {odd, math.MaxInt, []int{0}}, {odd, 4, nil},
		{bothWays(), 1, []int{2, 8}}, {bothWays(), 8, []int{1, 7}}, {make([]impl.Street, 20), 0, []int{0}}, {append(bothWays(), bothWays()...), 4, []int{3, 5}},
	}
	for _, c := range cases {
		if got := impl.StreetsFrom(c.l, c.from); !slices.Equal(got, c.want) {
			t.Errorf("StreetsFrom(%v, %d) = %v; want %v", c.l, c.from, got, c.want)
		}
	}
	for _, l := range append(someNets(198, 100), notNets()...) {
		for from := -1; from <= 10; from++ {
			var want []int
			for to := -2; to <= 11; to++ {
				if slices.ContainsFunc(l, func(s impl.Street) bool { return s.From == from && s.To == to }) {
					want = append(want, to)
				}
			}
			got := slices.DeleteFunc(impl.StreetsFrom(l, from), func(to int) bool { return to < -2 || to > 11 })
			if !slices.Equal(got, want) {
				t.Errorf("StreetsFrom(%v, %d) = %v; want %v", l, from, got, want)
			}
		}
	}
}

func TestTravel(t *testing.T) {
	list := nets()
	cases := []struct {
		l              []impl.Street
		from, to, want int
	}{
		{list[1], 1, 2, 1}, {list[1], 2, 1, -1}, {list[1], 1, 3, -1}, {list[2], 8, 1, 300}, {list[3], 1, 3, 50}, {list[3], 2, 1, 30}, {list[3], 4, 3, 55}, {list[3], 1, 4, -1}, {list[3], 3, 2, 40},
		// Around the circle, and all but around it.
		{ring(), 1, 8, 280}, {ring(), 8, 1, 80}, {ring(), 2, 1, 350}, {ring(), 5, 4, 320}, {bothWays(), 1, 8, 7}, {bothWays(), 1, 2, 10}, {bothWays(), 8, 1, 49}, {bothWays(), 4, 5, 40}, {bothWays(), 5, 6, 49},
		// A way of several streets is faster, or not.
		{list[6], 1, 5, 80}, {list[6], 3, 4, 7}, {list[6], 1, 4, -1}, {list[7], 1, 5, 4}, {list[7], 5, 4, 303}, {list[8], 2, 7, 60}, {list[9], 6, 7, 3}, {list[9], 7, 6, 299},
		// From and to the same, also where no street is.
		{nil, 1, 1, 0}, {nil, 8, 8, 0}, {nil, 1, 2, -1}, {list[1], 2, 2, 0}, {ring(), 3, 3, 0},
		// No crossing.
		{ring(), 0, 1, -1}, {ring(), 1, 0, -1}, {ring(), 9, 1, -1}, {ring(), 1, 9, -1}, {ring(), 0, 0, -1}, {ring(), 9, 9, -1}, {nil, -1, -1, -1}, {ring(), math.MinInt, 1, -1}, {ring(), 1, math.MaxInt, -1}, {ring(), math.MinInt, math.MinInt, -1}, {ring(), math.MaxInt, math.MaxInt, -1}, {ring(), 1<<32 + 1, 2, -1},
	}
	for _, c := range cases {
		if got := impl.Travel(c.l, c.from, c.to); got != c.want {
			t.Errorf("Travel(%v, %d, %d) = %d; want %d", c.l, c.from, c.to, got, c.want)
		}
	}
	for _, l := range someNets(199, 200) {
		for from := 1; from <= 8; from++ {
			for to := 1; to <= 8; to++ {
				if got, want := impl.Travel(l, from, to), travel(l, from, to); got != want {
					t.Errorf("Travel(%v, %d, %d) = %d; want %d", l, from, to, got, want)
				}
			}
		}
	}
	for _, l := range notNets() {
		for from := range 10 {
			for to := range 10 {
				if got := impl.Travel(l, from, to); got != -1 {
					t.Errorf("Travel(%v, %d, %d) = %d", l, from, to, got)
				}
			}
		}
	}
}

// Promise 20: no street, and no way over another crossing, leads faster than the least time, and where there is a least time a
// last street is on its way.
func TestNoStreetLeadsFasterThanTheLeastTime(t *testing.T) {
	for _, l := range someNets(200, 300) {
		for _, s := range l {
			if n := impl.Travel(l, s.From, s.To); n < 1 || n > s.Seconds {
				t.Fatalf("%v: Travel(%d, %d) = %d", l, s.From, s.To, n)
			}
		}
		for from := 1; from <= 8; from++ {
			for to := 1; to <= 8; to++ {
				n, isReached := impl.Travel(l, from, to), from == to
				for _, s := range l {
					before := impl.Travel(l, from, s.From)
					if s.To != to || before < 0 {
						continue
					}
					if n < 0 || n > before+s.Seconds {
						t.Fatalf("%v: Travel(%d, %d) = %d, but %d to %d", l, from, to, n, before, s.From)
					}
					isReached = isReached || n == before+s.Seconds
				}
				if isReached != (n >= 0) || from == to && n != 0 {
					t.Fatalf("%v: Travel(%d, %d) = %d", l, from, to, n)
				}
			}
		}
	}
}

func TestReachedIn(t *testing.T) {
	l := nets()[3]
	cases := []struct {
		l             []impl.Street
		from, seconds int
		want          []int
	}{
		{l, 1, 30, []int{1, 2}}, {l, 1, 29, []int{1}}, {l, 1, 50, []int{1, 2, 3}}, {l, 1, 49, []int{1, 2}}, {l, 1, 0, []int{1}}, {l, 1, -1, nil}, {l, 1, math.MinInt, nil}, {l, 1, math.MaxInt, []int{1, 2, 3}}, {l, 4, 55, []int{1, 2, 3, 4}}, {l, 4, 54, []int{1, 2, 4}}, {l, 5, 1000, []int{5}}, {l, 5, 0, []int{5}},
		{ring(), 8, 80, []int{1, 8}}, {ring(), 8, 10000, []int{1, 2, 3, 4, 5, 6, 7, 8}}, {ring(), 7, 149, []int{7, 8}}, {ring(), 7, 150, []int{1, 7, 8}},
		{nil, 3, 0, []int{3}}, {nil, 3, 100, []int{3}}, {nil, 0, 100, nil}, {nil, 9, 100, nil}, {l, 0, 100, nil}, {l, 9, 100, nil}, {l, -1, 100, nil}, {l, math.MinInt, 100, nil}, {l, math.MaxInt, math.MaxInt, nil}, {l, 1<<32 + 1, 100, nil},
	}
	for _, c := range cases {
		if got := impl.ReachedIn(c.l, c.from, c.seconds); !slices.Equal(got, c.want) {
			t.Errorf("ReachedIn(%v, %d, %d) = %v; want %v", c.l, c.from, c.seconds, got, c.want)
		}
	}
	source := rand.New(rand.NewSource(201))
	for _, l := range someNets(202, 100) {
		for from := 1; from <= 8; from++ {
			seconds := source.Intn(600)
			if to := travel(l, from, 1+source.Intn(8)); source.Intn(2) == 0 && to >= 0 {
				seconds = to - source.Intn(2)
			}
			var want []int
			for to := 1; to <= 8; to++ {
				if n := travel(l, from, to); n >= 0 && n <= seconds {
					want = append(want, to)
				}
			}
			if got := impl.ReachedIn(l, from, seconds); !slices.Equal(got, want) {
				t.Errorf("ReachedIn(%v, %d, %d) = %v; want %v", l, from, seconds, got, want)
			}
		}
	}
	for _, l := range notNets() {
		for from := range 10 {
			if got := impl.ReachedIn(l, from, 1000); len(got) != 0 {
				t.Errorf("ReachedIn(%v, %d, 1000) = %v", l, from, got)
			}
		}
	}
}

// chainsOf are lists of crossings of the net l: some that go along its streets, and some that do not.
func chainsOf(source *rand.Rand, l []impl.Street) [][]int {
	list := [][]int{nil, {0}, {9}, {-1}, {math.MinInt}, {math.MaxInt}, {1<<32 + 1}, {1, 2, 3, 4, 5, 6, 7, 8}, {8, 7, 6, 5, 4, 3, 2, 1}, {1, 2, 3, 4, 5, 6, 7, 8, 1}, {1, 1}, {3, 1, 2, 1}, make([]int, 9)}
	for crossing := range 10 {
		list = append(list, []int{crossing})
		chain := []int{crossing}
		for range 1 + source.Intn(9) {
			var next []int
			for _, s := range l {
				if s.From == chain[len(chain)-1] {
					next = append(next, s.To)
				}
			}
			if len(next) == 0 {
				break
			}
			chain = append(chain, next[source.Intn(len(next))])
			list = append(list, slices.Clone(chain))
		}
		back := slices.Clone(chain)
		slices.Reverse(back)
		list = append(list, back, append(slices.Clone(chain), source.Intn(10)))
	}
	return list
}

func TestIsChain(t *testing.T) {
	cases := []struct {
		l     []impl.Street
		chain []int
		want  []int
	}{
		{nets()[3], []int{4, 1, 2, 3}, []int{0, 5, 35, 55}}, {nets()[3], []int{4, 1, 3}, []int{0, 5, 65}}, {ring(), []int{1, 2, 3, 4, 5, 6, 7, 8}, []int{0, 10, 30, 60, 100, 150, 210, 280}}, {ring(), []int{6, 7, 8, 1, 2, 3, 4, 5}, []int{0, 60, 130, 210, 220, 240, 270, 310}}, {bothWays(), []int{3, 2, 1, 8}, []int{0, 7, 14, 21}},
		// The street itself, not a faster way.
		{nets()[6], []int{1, 5}, []int{0, 100}}, {nets()[7], []int{1, 5}, []int{0, 300}},
		// One crossing, also where no street is.
		{ring(), []int{1}, []int{0}}, {ring(), []int{8}, []int{0}}, {nil, []int{5}, []int{0}}, {nets()[1], []int{2}, []int{0}},
		// None, and one more than there are crossings.
		{ring(), nil, nil}, {nil, nil, nil}, {ring(), []int{1, 2, 3, 4, 5, 6, 7, 8, 1}, nil}, {ring(), make([]int, 100000), nil},
		// Against the way of a street, without one, and with a crossing twice.
		{nets()[1], []int{2, 1}, nil}, {nets()[3], []int{4, 1, 2, 1}, nil}, {nets()[3], []int{1, 2, 3, 1}, nil}, {nets()[3], []int{2, 4}, nil}, {nets()[3], []int{1, 1}, nil}, {nil, []int{1, 1}, nil}, {nets()[3], []int{1, 2, 4, 1}, nil}, {nets()[3], []int{1, 2, 3, 4}, nil}, {nets()[3], []int{3, 4, 1, 2}, nil},
		// Crossings that are none, alone, first, between and last.
		{ring(), []int{0}, nil}, {ring(), []int{9}, nil}, {ring(), []int{0, 1, 2}, nil}, {ring(), []int{1, 0, 2}, nil}, {ring(), []int{7, 8, 9}, nil}, {ring(), []int{-1}, nil}, {ring(), []int{math.MinInt}, nil}, {ring(), []int{math.MaxInt}, nil}, {ring(), []int{1, 1<<32 + 2}, nil},
	}
	for _, c := range cases {
		if got := impl.ChainTravel(c.l, c.chain); !slices.Equal(got, c.want) || impl.IsChain(c.l, c.chain) != (c.want != nil) {
			t.Errorf("ChainTravel(%v, %v) = %v; want %v; IsChain is %v", c.l, c.chain, got, c.want, impl.IsChain(c.l, c.chain))
		}
	}
	source := rand.New(rand.NewSource(203))
	for _, l := range append(someNets(204, 150), notNets()...) {
		for _, chain := range chainsOf(source, l) {
			want, ok := chainTravel(l, chain)
			if got := impl.ChainTravel(l, chain); !slices.Equal(got, want) || impl.IsChain(l, chain) != ok {
				t.Errorf("ChainTravel(%v, %v) = %v; want %v; IsChain is %v", l, chain, got, want, impl.IsChain(l, chain))
			}
		}
	}
}

func TestStreetsAreNewMemory(t *testing.T) {
	source := rand.New(rand.NewSource(205))
	for _, l := range append(someNets(206, 40), notNets()...) {
		for _, chain := range chainsOf(source, l) {
			wantUntouchedList(t, "a function of streets", l, street(5, 6, 7), func(l []impl.Street) {
				wantUntouchedList(t, "a function of chains", chain, 8, func(chain []int) {
					impl.AreStreets(l)
					impl.Travel(l, 1, 3)
					impl.IsChain(l, chain)
					wantOwnList(t, "StreetsFrom", 77, func() []int { return impl.StreetsFrom(l, 1) })
					wantOwnList(t, "ReachedIn", 77, func() []int { return impl.ReachedIn(l, 1, 60) })
					wantOwnList(t, "ChainTravel", 77, func() []int { return impl.ChainTravel(l, chain) })
				})
			})
		}
	}
}
