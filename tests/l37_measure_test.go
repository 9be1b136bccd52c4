package tests

import (
	"math"
	"math/rand"
	"slices"
	"testing"

	"loop.example/g03006/impl"
)

// busiestArm is the oracle for BusiestArm of a list of paths that is not empty and for which ArePaths holds.
func busiestArm(l []impl.Path) int {
	best, most := -1, -1
	for arm := range 4 {
		count := 0
		for _, p := range l {
			if slices.Contains([]int{p.From, p.To}, arm) {
				count++
			}
		}
		if count > most {
			best, most = arm, count
		}
	}
	return best
}

// openShare is the oracle for OpenShare: it looks at one second after the other.
func openShare(l []impl.Entry, index int, until int) int {
	if !isRecord(l) || len(l) == 0 || index < 0 || index >= len(l[0].Lights) || until > 1000000 || until <= l[0].Second {
		return 0
	}
	green := 0
	for second := l[0].Second; second < until; second++ {
		if lightShown(l, index, second) == 1 {
			green++
		}
	}
	return 100 * green / (until - l[0].Second)
}

func TestCountKind(t *testing.T) {
	// Paths that are not valid count, too, and so do kinds that are none.
	odd := []impl.Path{path(1, 9, 0, 2), path(2, -1, 0, 0), path(99, impl.PtCar, 7, 7), {}, {}, path(3, math.MaxInt, 0, 1), path(3, math.MinInt, 0, 1), path(3, math.MinInt, 0, 1)}
	for _, l := range slices.Concat(stagedCrossings(371, 60), notCrossings(), [][]impl.Path{odd}) {
		for _, kind := range around(0, 4) {
			want := 0
			for _, p := range l {
				if p.Kind == kind {
					want++
				}
			}
			if got := impl.CountKind(l, kind); got != want {
				t.Errorf("CountKind(%v, %d) = %d; want %d", l, kind, got, want)
			}
		}
	}
	if impl.CountKind(cross(), impl.PtCar) != 2 || impl.CountKind(cross(), impl.PtWalk) != 1 || impl.CountKind(cross(), 0) != 0 || impl.CountKind(nil, impl.PtCar) != 0 || impl.CountKind(odd, 0) != 2 || impl.CountKind(odd, math.MinInt) != 2 {
		t.Error("kinds")
	}
}

func TestBusiestArm(t *testing.T) {
	cases := []struct {
		l    []impl.Path
		want int
	}{
		// Two arms that are equally busy: the first one.
		{cross(), 0}, {cross()[1:], 1}, {cross()[:1], 0}, {[]impl.Path{car(1, 2, 3)}, 2}, {[]impl.Path{car(1, 3, 2)}, 2}, {[]impl.Path{bus(1, 3, 1), bus(2, 2, 0)}, 0}, {walks(1, 12), 0}, {walks(1, 5), 0}, {walks(9, 12), 0},
		// A walk counts once for its arm, so that a car and a walk are more than a walk.
		{[]impl.Path{walk(1, 0), car(2, 3, 1)}, 0}, {[]impl.Path{walk(1, 0), car(2, 3, 1), bus(3, 2, 3)}, 3}, {[]impl.Path{walk(1, 0), car(2, 3, 1), car(3, 2, 1)}, 1}, {[]impl.Path{walk(1, 2)}, 2}, {[]impl.Path{walk(1, 0), walk(2, 3), car(3, 3, 2)}, 3}, {[]impl.Path{walk(1, 3), walk(2, 3), car(3, 1, 2)}, 3}, {[]impl.Path{walk(1, 2), car(2, 1, 3), car(3, 3, 1)}, 1},
		// No paths, and paths for which ArePaths is false.
		{nil, -1}, {[]impl.Path{}, -1}, {[]impl.Path{car(2, 1, 3), car(1, 0, 2)}, -1}, {[]impl.Path{{}}, -1}, {walks(1, 13), -1},
	}
	for _, c := range cases {
		if got := impl.BusiestArm(c.l); got != c.want {
			t.Errorf("BusiestArm(%v) = %d; want %d", c.l, got, c.want)
		}
	}
	for _, l := range stagedCrossings(372, 400) {
		if len(l) > 0 && impl.BusiestArm(l) != busiestArm(l) {
			t.Errorf("BusiestArm(%v) = %d; want %d", l, impl.BusiestArm(l), busiestArm(l))
		}
	}
	for _, l := range notCrossings() {
		if got := impl.BusiestArm(l); got != -1 {
			t.Errorf("BusiestArm(%v) = %d", l, got)
		}
	}
}

func TestStageSizes(t *testing.T) {
	for _, c := range []struct {
		l    []impl.Path
		want []int
	}{
		{cross(), []int{1, 3}}, {nil, nil}, {[]impl.Path{}, nil}, {friends(), []int{6}}, {rivals(), []int{1, 1, 1, 1}}, {keeps(), []int{2, 2}}, {walks(9, 12), []int{12}}, {walks(1, 13), nil},
	} {
		if got := impl.StageSizes(c.l); !slices.Equal(got, c.want) {
			t.Errorf("StageSizes(%v) = %v; want %v", c.l, got, c.want)
		}
	}
	for _, l := range append(stagedCrossings(373, 60), sixStages(), sevenStages()) {
		var want []int
		for _, stage := range fullStages(l) {
			want = append(want, len(stage))
		}
		if got := impl.StageSizes(l); !slices.Equal(got, want) {
			t.Errorf("StageSizes(%v) = %v; want %v", l, got, want)
		}
	}
	for _, l := range notCrossings() {
		if got := impl.StageSizes(l); len(got) != 0 {
			t.Errorf("StageSizes(%v) = %v", l, got)
		}
	}
}

func TestOpenShare(t *testing.T) {
	l := sealedUp(shown(10, 0, 0), shown(20, 1, 0), shown(26, 0, 2), shown(30, 1, 0))
	always, never := sealedUp(shown(5, 1), shown(7, 1), shown(9, 1)), sealedUp(shown(5, 2), shown(7, 0), shown(9, 2))
	cases := []struct {
		l                  []impl.Entry
		index, until, want int
	}{
		// 6 and 10 of 30 seconds, rounded down, and so on.
		{l, 0, 40, 53}, {l, 0, 23, 23}, {l, 0, 26, 37}, {l, 0, 27, 35}, {l, 0, 30, 30}, {l, 0, 31, 33}, {l, 0, 32, 36}, {l, 1, 40, 0}, {l, 0, 1000000, 99}, {l, 0, 999999, 99},
		// Until at the first entry, before it, one behind it, and at the others.
		{l, 0, 10, 0}, {l, 0, 9, 0}, {l, 0, 11, 0}, {l, 0, 20, 0}, {l, 0, 21, 9}, {always, 0, 5, 0}, {always, 0, 4, 0}, {always, 0, 6, 100}, {always, 0, 7, 100}, {always, 0, 9, 100}, {always, 0, 10, 100}, {always, 0, 1000000, 100}, {always, 0, 1000001, 0}, {always, 0, math.MaxInt, 0}, {always, 0, 0, 0}, {always, 0, -1, 0}, {always, 0, math.MinInt, 0}, {always, 0, 1<<32 + 9, 0}, {never, 0, 100, 0}, {never, 0, 1000000, 0},
		// Records of one entry and without entries.
		{sealedUp(shown(5, 1)), 0, 6, 100}, {sealedUp(shown(5, 1)), 0, 5, 0}, {sealedUp(shown(5, 0)), 0, 6, 0}, {sealedUp(shown(0, 1)), 0, 1, 100}, {sealedUp(shown(0, 1)), 0, 0, 0}, {sealedUp(shown(1000000, 1)), 0, 1000000, 0}, {sealedUp(shown(1000000, 1)), 0, 1000001, 0}, {sealedUp(shown(999999, 1)), 0, 1000000, 100}, {nil, 0, 40, 0}, {[]impl.Entry{}, 0, 40, 0},
		// No such light.
		{l, -1, 40, 0}, {l, 1, 40, 0}, {l, 2, 40, 0}, {l, math.MinInt, 40, 0}, {l, math.MaxInt, 40, 0}, {l, 1 << 32, 40, 0}, {sealedUp(shown(5)), 0, 40, 0}, {sealedUp(shown(5)), -1, 40, 0},
		// What is no record.
		{l[1:], 0, 40, 0}, {[]impl.Entry{shown(5, 1)}, 0, 40, 0}, {sealedUp(shown(5, 1), shown(5, 1)), 0, 40, 0},
		// A share of 99 and a bit, and of just 1.
		{sealedUp(shown(0, 1), shown(999, 0)), 0, 1000, 99}, {sealedUp(shown(0, 1), shown(1, 0)), 0, 100, 1}, {sealedUp(shown(0, 1), shown(1, 0)), 0, 101, 0}, {sealedUp(shown(0, 1), shown(2, 0)), 0, 3, 66},
	}
	for _, c := range cases {
		if got := impl.OpenShare(c.l, c.index, c.until); got != c.want {
			t.Errorf("OpenShare(%v, %d, %d) = %d; want %d", c.l, c.index, c.until, got, c.want)
		}
	}
	source := rand.New(rand.NewSource(374))
	for _, l := range append(someRecords(375, 120), notRecords()...) {
		for range 6 {
			first := 5
			if len(l) > 0 && l[0].Second < 2000000 {
				first = l[0].Second
			}
			index, until := source.Intn(4)-1, min(max(first, -10)+source.Intn(120)-3, 1000001)
			if got, want := impl.OpenShare(l, index, until), openShare(l, index, until); got != want {
				t.Errorf("OpenShare(%v, %d, %d) = %d; want %d", l, index, until, got, want)
			}
		}
	}
}

func TestLongestWait(t *testing.T) {
	cases := []struct {
		w    []impl.Want
		want int
	}{
		{nil, 0}, {[]impl.Want{}, 0}, {[]impl.Want{want(1, 3), want(2, 9), want(3, 4)}, 9}, {[]impl.Want{want(1, 9), want(2, 3)}, 9}, {[]impl.Want{want(1, 3), want(2, 9)}, 9}, {[]impl.Want{want(1, 7)}, 7}, {[]impl.Want{want(1, 7), want(2, 7)}, 7},
		// Waits of 0 and below 0, and wants that are not valid.
		{[]impl.Want{want(1, 0)}, 0}, {[]impl.Want{want(1, -5)}, -5}, {[]impl.Want{want(1, -5), want(1, -3), want(0, -4)}, -3}, {[]impl.Want{want(1, -1), want(2, 0)}, 0}, {[]impl.Want{want(1, math.MinInt)}, math.MinInt}, {[]impl.Want{want(9, math.MinInt), want(-9, math.MaxInt), want(1, 5)}, math.MaxInt}, {[]impl.Want{want(1, 1<<32), want(2, 100001)}, 1 << 32},
	}
	for _, c := range cases {
		if got := impl.LongestWait(c.w); got != c.want {
			t.Errorf("LongestWait(%v) = %d; want %d", c.w, got, c.want)
		}
	}
}

func TestCountBroken(t *testing.T) {
	cases := []struct {
		x    []impl.Lamp
		want int
	}{
		{nil, 0}, {[]impl.Lamp{}, 0}, {[]impl.Lamp{lamp(1, 0), lamp(2, 1)}, 0}, {[]impl.Lamp{brokenLamp(1, 0)}, 1}, {[]impl.Lamp{brokenLamp(1, 0), lamp(1, 1), brokenLamp(2, 0), brokenLamp(2, 1)}, 3},
		// Lamps that are not valid, and one that is there twice.
		{[]impl.Lamp{brokenLamp(1, 0), brokenLamp(1, 0), brokenLamp(-9, 7), lamp(99, 9), {Broken: true}, brokenLamp(math.MinInt, math.MaxInt)}, 5}, {slices.Repeat([]impl.Lamp{brokenLamp(3, 1), lamp(3, 1)}, 500), 500},
	}
	for _, c := range cases {
		if got := impl.CountBroken(c.x); got != c.want {
			t.Errorf("CountBroken(%v) = %d; want %d", c.x, got, c.want)
		}
	}
}

// Promise 37: counts show what there is: those of all kinds are all paths, each stage has as many paths as its size says, and the
// shares of a record agree with what it shows.
func TestCountsShowWhatThereIs(t *testing.T) {
	source := rand.New(rand.NewSource(376))
	for _, o := range someTowns(377, 150) {
		if got := impl.CountKind(o.Paths, impl.PtCar) + impl.CountKind(o.Paths, impl.PtWalk) + impl.CountKind(o.Paths, impl.PtBus); got != len(o.Paths) {
			t.Fatalf("of %v %d are of the three kinds", o.Paths, got)
		}
		arm := impl.BusiestArm(o.Paths)
		if !slices.ContainsFunc(o.Paths, func(p impl.Path) bool { return p.From == arm || p.To == arm }) {
			t.Fatalf("BusiestArm(%v) = %d", o.Paths, arm)
		}
		sizes, stages := impl.StageSizes(o.Paths), impl.StagesOf(o.Paths)
		if len(sizes) != len(stages) {
			t.Fatalf("StageSizes(%v) = %v, and the stages are %v", o.Paths, sizes, stages)
		}
		for i, stage := range stages {
			if sizes[i] != len(stage) {
				t.Fatalf("StageSizes(%v) = %v, and the stages are %v", o.Paths, sizes, stages)
			}
		}
		broken := impl.CountBroken(o.Lamps)
		for _, one := range o.Lamps {
			if one.Broken {
				broken--
			}
		}
		longest := impl.LongestWait(o.Wants)
		if broken != 0 || slices.ContainsFunc(o.Wants, func(one impl.Want) bool { return one.Wait > longest }) || len(o.Wants) > 0 && !slices.ContainsFunc(o.Wants, func(one impl.Want) bool { return one.Wait == longest }) {
			t.Fatalf("%v: the longest wait is %d", o, longest)
		}
		index, first := source.Intn(len(o.Paths)), o.Record[0].Second
		until := min(first+1+source.Intn(200), 1000000)
		share, lights := impl.OpenShare(o.Record, index, until), impl.ShownBetween(o.Record, index, first, until-1)
		if share < 0 || share > 100 || until > first && (share == 100) != slices.Equal(lights, []int{impl.LtGreen}) || share > 0 && !slices.Contains(lights, impl.LtGreen) {
			t.Fatalf("OpenShare(%v, %d, %d) = %d; it shows %v", o.Record, index, until, share, lights)
		}
	}
}

func TestMeasuresAreNewMemory(t *testing.T) {
	for _, o := range append(someTowns(378, 30), notTowns()...) {
		wantUntouchedTown(t, "a measure", o, func(o impl.Town) {
			impl.CountKind(o.Paths, 1)
			impl.BusiestArm(o.Paths)
			impl.OpenShare(o.Record, 0, 50)
			impl.LongestWait(o.Wants)
			impl.CountBroken(o.Lamps)
			wantOwnList(t, "StageSizes", 77, func() []int { return impl.StageSizes(o.Paths) })
		})
	}
}
