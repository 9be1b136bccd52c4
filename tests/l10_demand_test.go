package tests

import (
	"math"
	"math/rand"
	"slices"
	"testing"

	"loop.example/g03006/impl"
)

func detector(path int, count int, age int, broken bool) impl.Detector {
	return impl.Detector{Path: path, Count: count, Age: age, Broken: broken}
}

// fresh is a detector that is trusted.
func fresh(path int, count int) impl.Detector { return detector(path, count, 0, false) }

// areDetectors is the oracle for AreDetectors of a list of paths for which ArePaths holds.
func areDetectors(l []impl.Path, d []impl.Detector) bool {
	met := map[int]bool{}
	for _, one := range d {
		known := slices.ContainsFunc(l, func(p impl.Path) bool { return p.Id == one.Path })
		if !known || met[one.Path] || one.Count < 0 || one.Count > 1000 || one.Age < 0 || one.Age > 100000 {
			return false
		}
		met[one.Path] = true
	}
	return true
}

// demand is the oracle for LowDemand and HighDemand: the count that is trusted, or the other number.
func demand(d []impl.Detector, id int, other int) int {
	for _, one := range d {
		if one.Path == id && one.Age <= 900 && !one.Broken {
			return one.Count
		}
	}
	return other
}

// stageDemand is the oracle for StageDemand.
func stageDemand(d []impl.Detector, stage []int) int {
	var counts []int
	for _, id := range stage {
		counts = append(counts, demand(d, id, 0))
	}
	if len(counts) == 0 {
		return 0
	}
	return slices.Max(counts)
}

// blind is the oracle for BlindPaths.
func blind(l []impl.Path, d []impl.Detector) []int {
	var ids []int
	for _, p := range l {
		// No count is both numbers at once.
		if demand(d, p.Id, -1) != demand(d, p.Id, -2) {
			ids = append(ids, p.Id)
		}
	}
	return ids
}

// drawDetectors draws detectors for some of the paths, which AreDetectors holds for.
func drawDetectors(source *rand.Rand, l []impl.Path) []impl.Detector {
	d := []impl.Detector{}
	for _, i := range source.Perm(len(l)) {
		if source.Intn(4) > 0 {
			count := []int{0, 1, 1000, source.Intn(1001), source.Intn(30)}[source.Intn(5)]
			age := []int{0, 900, 901, 100000, source.Intn(1000), source.Intn(100001)}[source.Intn(6)]
			d = append(d, detector(l[i].Id, count, age, source.Intn(5) == 0))
		}
	}
	return d
}

// drawAnyDetectors draws detectors of few paths, several of one among them, with any counts and ages.
func drawAnyDetectors(source *rand.Rand) []impl.Detector {
	numbers := []int{math.MinInt, -1000, -1, 0, 1, 7, 500, 899, 900, 901, 1000, 1001, 100000, 100001, math.MaxInt}
	d := make([]impl.Detector, source.Intn(15))
	for i := range d {
		d[i] = detector(source.Intn(6), numbers[source.Intn(len(numbers))], numbers[source.Intn(len(numbers))], source.Intn(3) == 0)
	}
	return d
}

func TestIsTrusted(t *testing.T) {
	if impl.MaxCount != 1000 {
		t.Error(impl.MaxCount)
	}
	ages := map[int]bool{math.MinInt: true, -1: true, 0: true, 1: true, 899: true, 900: true, 901: false, 902: false, 100000: false, 100001: false, 1<<32 + 5: false, math.MaxInt: false}
	for age, want := range ages {
		for _, n := range []int{math.MinInt, -1, 0, 5, 1000, 1001, math.MaxInt} {
			for _, d := range []impl.Detector{detector(n, 5, age, false), detector(5, n, age, false)} {
				if got := impl.IsTrusted(d); got != want {
					t.Errorf("IsTrusted(%v) = %v", d, got)
				}
				d.Broken = true
				if impl.IsTrusted(d) {
					t.Errorf("IsTrusted(%v) is true; it is broken", d)
				}
			}
		}
	}
}

func TestAreDetectors(t *testing.T) {
	var twelve []impl.Detector
	for _, p := range walks(9, 12) {
		twelve = append(twelve, fresh(p.Id, 1))
	}
	thirteen := append(slices.Clone(twelve), fresh(8, 1))
	cases := []struct {
		l    []impl.Path
		d    []impl.Detector
		want bool
	}{
		{cross(), nil, true}, {cross(), []impl.Detector{}, true}, {nil, nil, true}, {nil, []impl.Detector{fresh(1, 0)}, false}, {nil, []impl.Detector{{}}, false},
		{cross(), []impl.Detector{fresh(1, 30), fresh(2, 0), fresh(3, 1000), fresh(4, 1)}, true}, {cross(), []impl.Detector{fresh(4, 30), fresh(1, 0)}, true},
		// MaxPaths detectors, and one more.
		{walks(9, 12), twelve, true}, {walks(9, 12), thirteen, false}, {walks(8, 12), thirteen, false}, {walks(9, 12), append(slices.Clone(twelve), fresh(9, 1)), false}, {walks(8, 13), thirteen, false},
		// The limits of Count and Age, trusted or not.
		{cross(), []impl.Detector{fresh(2, -1)}, false}, {cross(), []impl.Detector{fresh(2, 1001)}, false}, {cross(), []impl.Detector{fresh(2, math.MinInt)}, false}, {cross(), []impl.Detector{fresh(2, math.MaxInt)}, false}, {cross(), []impl.Detector{fresh(2, 1<<32)}, false},
		{cross(), []impl.Detector{detector(2, 5, 900, false), detector(1, 5, 901, false)}, true}, {cross(), []impl.Detector{detector(2, 5, 100000, false)}, true}, {cross(), []impl.Detector{detector(2, 5, 100001, false)}, false}, {cross(), []impl.Detector{detector(2, 5, -1, false)}, false},
		{cross(), []impl.Detector{detector(2, 5, math.MinInt, false)}, false}, {cross(), []impl.Detector{detector(2, 5, math.MaxInt, false)}, false}, {cross(), []impl.Detector{detector(2, 1000, 0, true), detector(1, 0, 100000, true)}, true},
		{cross(), []impl.Detector{detector(2, 1001, 0, true)}, false}, {cross(), []impl.Detector{detector(2, 0, 100001, true)}, false},
		// Of no path of the list, and two of one path, the first one not trusted.
		{cross(), []impl.Detector{fresh(9, 5)}, false}, {cross(), []impl.Detector{fresh(0, 5)}, false}, {cross(), []impl.Detector{fresh(1, 5), fresh(5, 5)}, false}, {cross(), []impl.Detector{fresh(math.MinInt, 5)}, false}, {cross(), []impl.Detector{fresh(math.MaxInt, 5)}, false}, {cross(), []impl.Detector{fresh(1<<32+1, 5)}, false},
		{cross(), []impl.Detector{fresh(1, 5), fresh(1, 5)}, false}, {cross(), []impl.Detector{detector(1, 5, 901, false), fresh(2, 0), fresh(1, 5)}, false}, {cross(), []impl.Detector{detector(1, 5, 0, true), fresh(1, 5)}, false},
		// The first of several, and the last one, is at fault.
		{cross(), []impl.Detector{fresh(1, 1001), fresh(2, 5), fresh(3, 5)}, false}, {cross(), []impl.Detector{fresh(1, 5), fresh(2, 5), fresh(3, -1)}, false},
	}
	for _, c := range cases {
		if got := impl.AreDetectors(c.l, c.d); got != c.want {
			t.Errorf("AreDetectors(%v, %v) = %v", c.l, c.d, got)
		}
	}
	source := rand.New(rand.NewSource(101))
	for _, l := range stagedCrossings(102, 400) {
		d := drawDetectors(source, l)
		if !impl.AreDetectors(l, d) || !areDetectors(l, d) {
			t.Errorf("AreDetectors(%v, %v) is false", l, d)
		}
		for range 10 {
			if d := drawAnyDetectors(source); impl.AreDetectors(l, d) != areDetectors(l, d) {
				t.Errorf("AreDetectors(%v, %v) = %v", l, d, impl.AreDetectors(l, d))
			}
		}
	}
	for _, l := range notCrossings() {
		if impl.AreDetectors(l, nil) || impl.AreDetectors(l, []impl.Detector{fresh(l[0].Id, 5)}) {
			t.Errorf("AreDetectors of %v, for which ArePaths is false, is true", l)
		}
	}
}

func TestLowAndHighDemand(t *testing.T) {
	d := []impl.Detector{
		fresh(1, 30), detector(2, 12, 900, false), detector(3, 7, 901, false), detector(4, 9, 0, true), fresh(5, 0), fresh(6, 1000), detector(7, 8, 100000, false), detector(7, 9, 0, true),
		// The first one that is trusted counts, behind others that are not, and before others that are.
		detector(11, 1, 901, false), detector(11, 2, 5, true), detector(11, 3, 900, false), fresh(11, 4), fresh(12, 5), fresh(12, 6), detector(12, 7, 901, false),
		// Detectors need not be valid.
		fresh(13, -1), fresh(14, 1001), fresh(15, math.MinInt), fresh(16, math.MaxInt), detector(17, 5, -1, false), detector(18, 5, math.MinInt, false), detector(19, 5, math.MaxInt, false), fresh(-1, 6), fresh(math.MinInt, 7), fresh(math.MaxInt, 8), fresh(0, 9),
	}
	cases := []struct{ id, low, high int }{
		{1, 30, 30}, {2, 12, 12}, {3, 0, 1000}, {4, 0, 1000}, {5, 0, 0}, {6, 1000, 1000}, {7, 0, 1000}, {8, 0, 1000}, {11, 3, 3}, {12, 5, 5},
		{13, -1, -1}, {14, 1001, 1001}, {15, math.MinInt, math.MinInt}, {16, math.MaxInt, math.MaxInt}, {17, 5, 5}, {18, 5, 5}, {19, 0, 1000}, {-1, 6, 6}, {math.MinInt, 7, 7}, {math.MaxInt, 8, 8}, {0, 9, 9}, {1<<32 + 1, 0, 1000}, {-2, 0, 1000},
	}
	for _, c := range cases {
		if low, high := impl.LowDemand(d, c.id), impl.HighDemand(d, c.id); low != c.low || high != c.high {
			t.Errorf("the demand of %d is %d to %d; want %d to %d", c.id, low, high, c.low, c.high)
		}
	}
	for _, none := range [][]impl.Detector{nil, {}} {
		for _, id := range around(0, 20) {
			if impl.LowDemand(none, id) != 0 || impl.HighDemand(none, id) != 1000 {
				t.Errorf("without detectors the demand of %d is %d to %d", id, impl.LowDemand(none, id), impl.HighDemand(none, id))
			}
		}
	}
}

// Promise 10: what is surely there is at most what may be there, and they differ only where nothing is trusted.
func TestWhatIsSurelyThereIsAtMostWhatMayBeThere(t *testing.T) {
	source := rand.New(rand.NewSource(103))
	check := func(d []impl.Detector, id int) {
		low, high := impl.LowDemand(d, id), impl.HighDemand(d, id)
		if low > high || low != demand(d, id, 0) || high != demand(d, id, 1000) {
			t.Errorf("%v: the demand of %d is %d to %d", d, id, low, high)
		}
	}
	for range 2000 {
		d := drawAnyDetectors(source)
		for id := -1; id < 7; id++ {
			check(d, id)
		}
	}
	for _, l := range stagedCrossings(104, 400) {
		d := drawDetectors(source, l)
		for id := range 22 {
			check(d, id)
			if low, high := impl.LowDemand(d, id), impl.HighDemand(d, id); low < 0 || high > impl.MaxCount {
				t.Errorf("%v: the demand of %d is %d to %d", d, id, low, high)
			}
		}
	}
}

func TestStageDemand(t *testing.T) {
	d := []impl.Detector{fresh(1, 30), fresh(2, 12), detector(3, 99, 901, false), detector(4, 98, 0, true), detector(5, 97, 5000, false), fresh(5, 8), fresh(6, 0), fresh(7, -5), fresh(8, -9), fresh(9, 1000)}
	cases := []struct {
		stage []int
		want  int
	}{
		{nil, 0}, {[]int{}, 0}, {[]int{1}, 30}, {[]int{2}, 12}, {[]int{1, 2}, 30}, {[]int{2, 1}, 30}, {[]int{2, 3, 4}, 12}, {[]int{3}, 0}, {[]int{3, 4}, 0}, {[]int{5}, 8}, {[]int{2, 5, 6}, 12}, {[]int{6}, 0}, {[]int{2, 5, 9}, 1000},
		// A number that is there twice, or that is no path's.
		{[]int{2, 2}, 12}, {[]int{5, 2, 5, 2}, 12}, {[]int{20}, 0}, {[]int{20, 5}, 8}, {[]int{0, -1, math.MinInt, math.MaxInt}, 0},
		// Counts that are not valid.
		{[]int{7}, -5}, {[]int{7, 8}, -5}, {[]int{8, 7}, -5}, {[]int{7, 20}, 0}, {[]int{8, 3, 7}, 0}, {[]int{7, 5}, 8},
	}
	for _, c := range cases {
		if got := impl.StageDemand(d, c.stage); got != c.want {
			t.Errorf("StageDemand(%v) = %d; want %d", c.stage, got, c.want)
		}
	}
	if impl.StageDemand(nil, []int{1, 2}) != 0 || impl.StageDemand(nil, nil) != 0 {
		t.Error("a demand without detectors")
	}
	source := rand.New(rand.NewSource(105))
	for range 3000 {
		d, stage := drawAnyDetectors(source), drawNumbers(source)
		if got, want := impl.StageDemand(d, stage), stageDemand(d, stage); got != want {
			t.Errorf("StageDemand(%v, %v) = %d; want %d", d, stage, got, want)
		}
	}
}

func TestBlindPaths(t *testing.T) {
	d := []impl.Detector{fresh(1, 30), detector(2, 12, 900, false), detector(3, 7, 901, false), detector(4, 9, 0, true)}
	cases := []struct {
		l    []impl.Path
		d    []impl.Detector
		want []int
	}{
		{cross(), d, []int{3, 4}}, {cross(), nil, []int{1, 2, 3, 4}}, {cross(), []impl.Detector{}, []int{1, 2, 3, 4}}, {nil, d, nil}, {nil, nil, nil}, {cross(), d[:1], []int{2, 3, 4}}, {cross(), d[2:], []int{1, 2, 3, 4}},
		{cross(), []impl.Detector{fresh(4, 0), fresh(3, 0), fresh(2, 0), fresh(1, 0)}, nil}, {cross(), []impl.Detector{fresh(9, 5), fresh(0, 5)}, []int{1, 2, 3, 4}},
		// The second detector of a path is trusted, or the first one is.
		{cross(), []impl.Detector{detector(1, 5, 0, true), fresh(1, 5), fresh(2, 5), detector(2, 5, 901, false)}, []int{3, 4}}, {cross(), []impl.Detector{detector(1, 5, 0, true), detector(1, 5, 901, false)}, []int{1, 2, 3, 4}},
		// Counts and ages that are not valid.
		{cross(), []impl.Detector{fresh(1, -1), fresh(2, 1001), detector(3, 5, -1, false), detector(4, 5, 100001, false)}, []int{4}},
		// Paths for which ArePaths is false.
		{[]impl.Path{car(4, 0, 2), car(2, 1, 3), car(3, 1, 3), car(4, 0, 2), car(1, 0, 2)}, d, []int{4, 3, 4}}, {[]impl.Path{{}}, nil, []int{0}}, {[]impl.Path{path(math.MinInt, 0, 0, 0), path(math.MaxInt, 0, 0, 0)}, []impl.Detector{fresh(math.MinInt, 5)}, []int{math.MaxInt}},
	}
	for _, c := range cases {
		if got := impl.BlindPaths(c.l, c.d); !slices.Equal(got, c.want) {
			t.Errorf("BlindPaths(%v, %v) = %v; want %v", c.l, c.d, got, c.want)
		}
	}
	source := rand.New(rand.NewSource(106))
	for _, l := range append(stagedCrossings(107, 300), notCrossings()...) {
		for _, d := range [][]impl.Detector{nil, drawAnyDetectors(source), drawDetectors(source, l)} {
			if got, want := impl.BlindPaths(l, d), blind(l, d); !slices.Equal(got, want) {
				t.Errorf("BlindPaths(%v, %v) = %v; want %v", l, d, got, want)
			}
		}
	}
}

func TestDemandLeavesItsArguments(t *testing.T) {
	source := rand.New(rand.NewSource(108))
	for _, plain := range append(stagedCrossings(109, 60), notCrossings()...) {
		l, wholeL := roomy(plain, car(5, 0, 1), car(6, 1, 0))
		d, wholeD := roomy(drawDetectors(source, plain), fresh(5, 6), detector(7, 8, 9, true))
		stage, wholeStage := roomy(drawNumbers(source), 4, 77)
		paths, detectors, numbers := slices.Clone(wholeL), slices.Clone(wholeD), slices.Clone(wholeStage)
		impl.AreDetectors(l, d)
		impl.LowDemand(d, 1)
		impl.HighDemand(d, 1)
		impl.StageDemand(d, stage)
		first, second := impl.BlindPaths(l, d), impl.BlindPaths(l, d)
		want := slices.Clone(second)
		spoil(first)
		if !slices.Equal(wholeL, paths) || !slices.Equal(wholeD, detectors) || !slices.Equal(wholeStage, numbers) {
			t.Errorf("changed: %v to %v, %v to %v, or %v to %v", paths, wholeL, detectors, wholeD, numbers, wholeStage)
		}
		if third := impl.BlindPaths(l, d); !slices.Equal(second, want) || !slices.Equal(third, want) {
			t.Errorf("BlindPaths(%v, %v): a write to a result changes %v to %v, and the next one to %v", l, d, want, second, third)
		}
	}
}
