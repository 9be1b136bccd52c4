package tests

import (
	"math"
	"math/rand"
	"slices"
	"testing"

	"loop.example/g03006/impl"
)

func want(path int, wait int) impl.Want { return impl.Want{Path: path, Wait: wait} }

// asked is a crossing with a controller and the wants of those who wait at it.
type asked struct {
	steered
	w []impl.Want
}

// areWants is the oracle for AreWants of a list of paths for which ArePaths holds.
func areWants(l []impl.Path, w []impl.Want) bool {
	for i, one := range w {
		if !hasPath(l, one.Path) || one.Wait < 0 || one.Wait > 100000 || i > 0 && w[i-1].Path >= one.Path {
			return false
		}
	}
	return true
}

// longestWant is the oracle for LongestWant: a want for which no other one is in the way.
func longestWant(w []impl.Want, stage []int) int {
	for i, one := range w {
		beaten := slices.Contains(stage, one.Path)
		for j, other := range w {
			if !slices.Contains(stage, other.Path) && (other.Wait > one.Wait || other.Wait == one.Wait && j < i) {
				beaten = true
			}
		}
		if !beaten {
			return one.Path
		}
	}
	return 0
}

// nextStage is the oracle for NextStage of what is valid.
func nextStage(c asked) []int {
	id := longestWant(c.w, c.x.Stage)
	if id == 0 {
		return nil
	}
	return filled(c.l, []int{id})
}

// mustChange is the oracle for MustChange of what is valid.
func mustChange(c asked) bool {
	if !canEnd(c.l, c.x) || len(nextStage(c)) == 0 {
		return false
	}
	own := false
	for _, one := range c.w {
		own = own || slices.Contains(c.x.Stage, one.Path)
	}
	return !own || c.x.Since >= 60
}

// stillWaiting is the oracle for the wants a second later, under the controller that there is then.
func stillWaiting(l []impl.Path, x impl.Control, w []impl.Want) []impl.Want {
	var left []impl.Want
	for _, one := range w {
		at := slices.IndexFunc(l, func(p impl.Path) bool { return p.Id == one.Path })
		if lightsOf(l, x)[at] != 1 {
			left = append(left, want(one.Path, min(one.Wait+1, 100000)))
		}
	}
	return left
}

// stepAsk is the oracle for StepAsk of what is valid.
func stepAsk(c asked) (impl.Control, []impl.Want) {
	x := ticked(c.x)
	if mustChange(c) {
		x = changedTo(c.l, c.x, nextStage(c))
	}
	return x, stillWaiting(c.l, x, c.w)
}

// drawWants draws wants, some of them with the same Wait.
func drawWants(source *rand.Rand, l []impl.Path) []impl.Want {
	var w []impl.Want
	often := source.Intn(4)
	for _, p := range l {
		if source.Intn(4) <= often {
			w = append(w, want(p.Id, []int{0, 0, 1, 3, 3, 9, 99, 99998, 99999, 100000}[source.Intn(3+source.Intn(8))]))
		}
	}
	return w
}

// someAsked are controllers with wants.
func someAsked(seed int64, count int) []asked {
	source := rand.New(rand.NewSource(seed))
	var list []asked
	for _, c := range someControls(seed, count) {
		list = append(list, asked{c, nil}, asked{c, drawWants(source, c.l)}, asked{c, drawWants(source, c.l)})
	}
	return list
}

// badWants are wants that are not valid for cross.
func badWants() [][]impl.Want {
	lists := [][]impl.Want{
		{want(2, 0), want(1, 0)}, {want(2, 3), want(2, 3)}, {want(2, 3), want(2, 4)}, {want(1, 0), want(3, 0), want(2, 0)}, {want(9, 0)}, {want(1, 0), want(9, 0)}, {want(0, 0), want(1, 0)}, {{}}, {want(-1, 0)}, {want(1, 0), want(0, 0)}, {want(math.MinInt, 0)}, {want(4, 0), want(math.MaxInt, 0)}, {want(1<<32+1, 0)},
	}
	for _, wait := range []int{-1, 100001, math.MinInt, math.MaxInt, 1 << 32} {
		lists = append(lists, []impl.Want{want(2, wait)}, []impl.Want{want(1, wait), want(2, 0)}, []impl.Want{want(1, 0), want(2, 3), want(3, wait)})
	}
	return lists
}

// notAsked are controllers with wants of which one is not valid.
func notAsked() []asked {
	var list []asked
	for _, w := range badWants() {
		list = append(list, asked{steered{cross(), opened(60, 1)}, w}, asked{steered{cross(), closing([]int{1}, 5, []int{2, 3, 4}, 1)}, w}, asked{steered{cross(), impl.Control{}}, w})
	}
	for i, c := range notControls() {
		list = append(list, asked{c, []impl.Want{want(2, 3), want(3, 9)}[:i%3]})
	}
	return list
}

func TestAreWants(t *testing.T) {
	cases := []struct {
		w    []impl.Want
		want bool
	}{
		{nil, true}, {[]impl.Want{}, true}, {[]impl.Want{want(1, 0)}, true}, {[]impl.Want{want(4, 100000)}, true}, {[]impl.Want{want(1, 100000), want(2, 0), want(3, 5), want(4, 5)}, true}, {[]impl.Want{want(2, 3), want(4, 3)}, true}, {[]impl.Want{want(2, 99999), want(3, 1)}, true},
	}
	for _, w := range badWants() {
		cases = append(cases, struct {
			w    []impl.Want
			want bool
		}{w, false})
	}
	for _, c := range cases {
		if got := impl.AreWants(cross(), c.w); got != c.want || got != areWants(cross(), c.w) {
			t.Errorf("AreWants(%v) = %v", c.w, got)
		}
	}
	for _, n := range around(0, 100000) {
		if got := impl.AreWants(cross(), []impl.Want{want(1, 7), want(2, n)}); got != (n >= 0 && n <= 100000) {
			t.Errorf("AreWants with the Wait %d is %v", n, got)
		}
		if got := impl.AreWants(cross(), []impl.Want{want(n, 7)}); got != (n >= 1 && n <= 4) {
			t.Errorf("AreWants with the Path %d is %v", n, got)
		}
	}
	source := rand.New(rand.NewSource(152))
	for _, l := range stagedCrossings(153, 200) {
		w := drawWants(source, l)
		if !impl.AreWants(l, w) {
			t.Errorf("AreWants(%v, %v) is false", l, w)
		}
		if len(w) > 0 {
			w[source.Intn(len(w))].Path = 1 + source.Intn(20)
		}
		if got := impl.AreWants(l, w); got != areWants(l, w) {
			t.Errorf("AreWants(%v, %v) = %v", l, w, got)
		}
	}
	if !impl.AreWants(nil, nil) || impl.AreWants(nil, []impl.Want{want(1, 0)}) {
		t.Error("no paths")
	}
	for _, l := range notCrossings() {
		if impl.AreWants(l, nil) || impl.AreWants(l, []impl.Want{want(l[0].Id, 0)}) || impl.AreWants(l, []impl.Want{want(1, 0)}) {
			t.Errorf("AreWants of %v, for which ArePaths is false, is true", l)
		}
	}
}

func TestLongestWant(t *testing.T) {
	w := []impl.Want{want(2, 3), want(3, 9), want(4, 9)}
	cases := []struct {
		w     []impl.Want
		stage []int
		want  int
	}{
		// Several with the greatest Wait.
		{w, []int{1}, 3}, {w, nil, 3}, {w, []int{3}, 4}, {w, []int{3, 4}, 2}, {w, []int{2, 3}, 4}, {[]impl.Want{want(1, 5), want(2, 5), want(3, 5)}, []int{9}, 1}, {[]impl.Want{want(1, 0), want(2, 0)}, nil, 1}, {[]impl.Want{want(1, 0), want(2, 0)}, []int{1}, 2},
		// The first, the last, and none.
		{[]impl.Want{want(1, 9), want(2, 8)}, nil, 1}, {[]impl.Want{want(1, 8), want(2, 9)}, nil, 2}, {w, []int{2, 3, 4}, 0}, {nil, []int{1}, 0}, {nil, nil, 0}, {[]impl.Want{}, []int{}, 0},
		// Lists that are not valid.
		{[]impl.Want{want(4, 9), want(3, 9)}, nil, 4}, {[]impl.Want{want(4, 3), want(3, 9), want(3, 1)}, nil, 3}, {[]impl.Want{want(2, 5), want(3, 7), want(2, 9)}, nil, 2}, {[]impl.Want{want(2, 5), want(3, 7), want(2, 9)}, []int{2, 2}, 3}, {[]impl.Want{want(2, 9), want(3, 7), want(2, 1)}, nil, 2}, {[]impl.Want{want(2, 5), want(3, 7), want(2, 1)}, nil, 3}, {[]impl.Want{want(2, -5)}, nil, 2}, {[]impl.Want{want(2, -5), want(3, -4)}, nil, 3}, {[]impl.Want{want(2, -5), want(3, -4)}, []int{3}, 2}, {[]impl.Want{want(7, math.MinInt)}, nil, 7}, {[]impl.Want{want(7, math.MinInt), want(8, math.MinInt)}, nil, 7}, {[]impl.Want{want(7, math.MinInt), want(8, math.MaxInt)}, nil, 8}, {[]impl.Want{want(7, math.MaxInt), want(8, math.MinInt)}, nil, 7}, {[]impl.Want{want(7, math.MaxInt), want(8, math.MaxInt)}, []int{7}, 8},
		{[]impl.Want{want(math.MinInt, 1), want(math.MaxInt, 1)}, nil, math.MinInt}, {[]impl.Want{want(math.MinInt, 1), want(math.MaxInt, 1)}, []int{math.MinInt}, math.MaxInt}, {[]impl.Want{want(1, 100001), want(2, 100000)}, nil, 1}, {[]impl.Want{{}}, nil, 0}, {[]impl.Want{want(1, 1<<32), want(2, 1)}, nil, 1},
	}
	for _, c := range cases {
		if got := impl.LongestWant(c.w, c.stage); got != c.want || got != longestWant(c.w, c.stage) {
			t.Errorf("LongestWant(%v, %v) = %d; want %d", c.w, c.stage, got, c.want)
		}
	}
	source := rand.New(rand.NewSource(154))
	for range 2000 {
		var w []impl.Want
		for range source.Intn(6) {
			w = append(w, want(1+source.Intn(5), source.Intn(7)-3))
		}
		stage := source.Perm(6)[:source.Intn(5)]
		if got := impl.LongestWant(w, stage); got != longestWant(w, stage) {
			t.Errorf("LongestWant(%v, %v) = %d; want %d", w, stage, got, longestWant(w, stage))
		}
	}
}

func TestNextStage(t *testing.T) {
	w := []impl.Want{want(2, 3), want(3, 9), want(4, 9)}
	cases := []struct {
		l    []impl.Path
		x    impl.Control
		w    []impl.Want
		want []int
	}{
		{cross(), opened(5, 1), w, []int{2, 3, 4}}, {cross(), opened(0, 1), w, []int{2, 3, 4}}, {cross(), opened(5, 2, 4), []impl.Want{want(1, 0), want(2, 99)}, []int{1}}, {cross(), opened(5, 2, 4), w, []int{2, 3, 4}},
		// No want, or wants for paths of the stage alone.
		{cross(), opened(5, 1), nil, nil}, {cross(), opened(5, 2, 3, 4), w, nil}, {cross(), opened(99, 1), []impl.Want{want(1, 100000)}, nil},
		// While the stage clears: what is in Stage does not count, what is in Next does.
		{cross(), closing([]int{1}, 5, []int{2}, 2), w, []int{2, 3, 4}}, {cross(), closing([]int{1}, 5, []int{2}, 2), []impl.Want{want(1, 9)}, nil}, {keeps(), closing([]int{1, 2}, 9, []int{1, 3}, 1), []impl.Want{want(1, 9), want(2, 9), want(3, 1)}, []int{1, 3}},
		// The stage is that of the path alone: what conflicts with it is not in it.
		{rivals(), opened(5, 2), []impl.Want{want(9, 1), want(10, 2), want(20, 1)}, []int{10}}, {keeps(), opened(5, 2), []impl.Want{want(1, 1), want(3, 1)}, []int{1, 2}}, {keeps(), opened(5, 1, 2), []impl.Want{want(1, 7), want(3, 1)}, []int{1, 3}},
	}
	for _, c := range cases {
		if got := impl.NextStage(c.l, c.x, c.w); !slices.Equal(got, c.want) {
			t.Errorf("NextStage(%v, %v, %v) = %v; want %v", c.l, c.x, c.w, got, c.want)
		}
	}
	for _, c := range someAsked(155, 200) {
		if got := impl.NextStage(c.l, c.x, c.w); !slices.Equal(got, nextStage(c)) {
			t.Errorf("NextStage(%v, %v, %v) = %v; want %v", c.l, c.x, c.w, got, nextStage(c))
		}
	}
}

func TestMustChange(t *testing.T) {
	w := []impl.Want{want(2, 3), want(3, 9)}
	own := []impl.Want{want(1, 0), want(2, 3)}
	cases := []struct {
		x    impl.Control
		w    []impl.Want
		want bool
	}{
		// Since at LeastGreen, and one less, with a walk and without.
		{opened(5, 1), w, true}, {opened(4, 1), w, false}, {opened(0, 1), w, false}, {opened(7, 2, 3, 4), own[:1], true}, {opened(6, 2, 3, 4), own[:1], false}, {opened(5, 2, 4), own[:1], true}, {opened(4, 2, 4), own[:1], false},
		// A want for a path of the stage, until MaxGreen.
		{opened(5, 1), own, false}, {opened(59, 1), own, false}, {opened(60, 1), own, true}, {opened(61, 1), own, true}, {opened(1000000, 1), own, true}, {opened(59, 1), w, true}, {opened(60, 1), w, true}, {opened(59, 2, 3, 4), own, false}, {opened(60, 2, 3, 4), own, true}, {opened(59, 1), []impl.Want{want(1, 100000), want(2, 0)}, false}, {opened(59, 1), []impl.Want{want(1, 0), want(2, 100000)}, false}, {opened(59, 2, 4), []impl.Want{want(1, 5), want(4, 0)}, false},
		// Nothing that is wanted is in another stage, also at MaxGreen.
		{opened(9, 1), nil, false}, {opened(60, 1), nil, false}, {opened(1000000, 1), nil, false}, {opened(9, 1), own[:1], false}, {opened(60, 1), own[:1], false}, {opened(1000000, 2, 3, 4), w, false},
		// While the stage clears, also when it has been open for long.
		{closing([]int{1}, 5, []int{2, 3, 4}, 2), w, false}, {closing([]int{1}, 60, []int{2}, 1), w, false}, {closing([]int{1}, 1000000, []int{2}, 1), own, false},
		{impl.Control{}, w, false}, {opened(60), w, false}, {opened(60, 1, 2), w, false}, {opened(1000001, 1), w, false}, {impl.Control{Stage: []int{1}, Since: 60, Left: 1}, w, false},
	}
	for _, c := range cases {
		if got := impl.MustChange(cross(), c.x, c.w); got != c.want {
			t.Errorf("MustChange(%v, %v) = %v", c.x, c.w, got)
		}
	}
	for _, c := range someAsked(156, 300) {
		for _, since := range []int{c.x.Since, 4, 5, 6, 7, 59, 60} {
			c.x.Since = since
			if got := impl.MustChange(c.l, c.x, c.w); got != mustChange(c) {
				t.Errorf("MustChange(%v, %v, %v) = %v", c.l, c.x, c.w, got)
			}
		}
	}
}

func TestStepAsk(t *testing.T) {
	w := []impl.Want{want(2, 3), want(3, 9), want(4, 9)}
	own := []impl.Want{want(1, 0), want(2, 3)}
	cases := []struct {
		l    []impl.Path
		x    impl.Control
		w    []impl.Want
		want impl.Control
		left []impl.Want
	}{
		{cross(), opened(5, 1), w, closing([]int{1}, 5, []int{2, 3, 4}, 2), []impl.Want{want(2, 4), want(3, 10), want(4, 10)}}, {cross(), closing([]int{1}, 5, []int{2, 3, 4}, 2), w, closing([]int{1}, 5, []int{2, 3, 4}, 1), []impl.Want{want(2, 4), want(3, 10), want(4, 10)}}, {cross(), closing([]int{1}, 5, []int{2, 3, 4}, 1), w, opened(0, 2, 3, 4), nil}, {cross(), opened(4, 1), w, opened(5, 1), []impl.Want{want(2, 4), want(3, 10), want(4, 10)}},
		// Who waits for what is open goes, and the others wait on.
		{cross(), opened(5, 1), own, opened(6, 1), []impl.Want{want(2, 4)}}, {cross(), opened(59, 1), own, opened(60, 1), []impl.Want{want(2, 4)}}, {cross(), opened(60, 1), own, closing([]int{1}, 60, []int{2, 3, 4}, 2), []impl.Want{want(1, 1), want(2, 4)}}, {cross(), opened(60, 2, 3, 4), w, opened(61, 2, 3, 4), nil},
		// The next stage is open at once.
		{cross(), opened(5, 2, 4), []impl.Want{want(3, 7)}, opened(0, 2, 3, 4), nil}, {cross(), opened(9, 3), []impl.Want{want(2, 7)}, opened(0, 2, 3, 4), nil},
		// No want; a Wait that goes on at its greatest.
		{cross(), opened(9, 1), nil, opened(10, 1), nil}, {cross(), opened(1000000, 1), nil, opened(1000000, 1), nil}, {cross(), opened(0, 1), []impl.Want{want(1, 100000), want(2, 100000), want(3, 99999), want(4, 99998)}, opened(1, 1), []impl.Want{want(2, 100000), want(3, 100000), want(4, 99999)}},
		// What is in Stage and in Next stays green; what is in Stage alone waits while it clears.
		{keeps(), closing([]int{1, 2}, 9, []int{1, 3}, 2), []impl.Want{want(1, 4), want(2, 4), want(3, 4)}, closing([]int{1, 2}, 9, []int{1, 3}, 1), []impl.Want{want(2, 5), want(3, 5)}}, {keeps(), closing([]int{1, 2}, 9, []int{1, 3}, 1), []impl.Want{want(1, 4), want(2, 4), want(3, 4)}, opened(0, 1, 3), []impl.Want{want(2, 5)}},
		{cross(), closing([]int{1}, 9, []int{2, 3, 4}, 1), []impl.Want{want(1, 0)}, opened(0, 2, 3, 4), []impl.Want{want(1, 1)}},
	}
	for _, c := range cases {
		if got, left := impl.StepAsk(c.l, c.x, c.w); !sameControl(got, c.want) || !slices.Equal(left, c.left) {
			t.Errorf("StepAsk(%v, %v, %v) = %v, %v; want %v, %v", c.l, c.x, c.w, got, left, c.want, c.left)
		}
	}
	for _, c := range someAsked(157, 300) {
		for range 4 {
			want, waiting := stepAsk(c)
			got, left := impl.StepAsk(c.l, c.x, c.w)
			if !sameControl(got, want) || !slices.Equal(left, waiting) {
				t.Errorf("StepAsk(%v, %v, %v) = %v, %v; want %v, %v", c.l, c.x, c.w, got, left, want, waiting)
			}
			c.x, c.w = want, waiting
		}
	}
}

// A controller or wants that are not valid change nothing.
func TestNotAsked(t *testing.T) {
	for _, c := range notAsked() {
		x, w := impl.StepAsk(c.l, c.x, c.w)
		if !sameControl(x, c.x) || !slices.Equal(w, c.w) {
			t.Errorf("StepAsk(%v, %v, %v) = %v, %v", c.l, c.x, c.w, x, w)
		}
		if stage := impl.NextStage(c.l, c.x, c.w); len(stage) != 0 || impl.MustChange(c.l, c.x, c.w) {
			t.Errorf("%v, %v, %v: NextStage %v, MustChange %v", c.l, c.x, c.w, stage, impl.MustChange(c.l, c.x, c.w))
		}
	}
}

func TestAddWant(t *testing.T) {
	w := []impl.Want{want(2, 3), want(3, 9)}
	cases := []struct {
		w    []impl.Want
		path int
		want []impl.Want
		ok   bool
	}{
		// First, between and last, and alone.
		{w, 1, []impl.Want{want(1, 0), want(2, 3), want(3, 9)}, true}, {w, 4, []impl.Want{want(2, 3), want(3, 9), want(4, 0)}, true}, {[]impl.Want{want(1, 5), want(4, 100000)}, 3, []impl.Want{want(1, 5), want(3, 0), want(4, 100000)}, true}, {nil, 2, []impl.Want{want(2, 0)}, true}, {[]impl.Want{}, 4, []impl.Want{want(4, 0)}, true}, {[]impl.Want{want(1, 1), want(2, 2), want(4, 4)}, 3, []impl.Want{want(1, 1), want(2, 2), want(3, 0), want(4, 4)}, true},
		// One that is there, and one of no path.
		{w, 2, w, false}, {w, 3, w, false}, {[]impl.Want{want(2, 0)}, 2, []impl.Want{want(2, 0)}, false}, {w, 9, w, false}, {w, 0, w, false}, {w, -1, w, false}, {w, math.MinInt, w, false}, {w, math.MaxInt, w, false}, {nil, 5, nil, false}, {nil, 0, nil, false}, {w, 1<<32 + 1, w, false},
	}
	for _, bad := range badWants() {
		for path := range 6 {
			cases = append(cases, struct {
				w    []impl.Want
				path int
				want []impl.Want
				ok   bool
			}{bad, path, bad, false})
		}
	}
	for _, c := range cases {
		if got, ok := impl.AddWant(cross(), c.w, c.path); ok != c.ok || !slices.Equal(got, c.want) {
			t.Errorf("AddWant(%v, %d) = %v, %v; want %v, %v", c.w, c.path, got, ok, c.want, c.ok)
		}
	}
	source := rand.New(rand.NewSource(158))
	for _, l := range stagedCrossings(159, 300) {
		w := drawWants(source, l)
		for path := range 22 {
			if path == 0 {
				// Often a list that is not valid any more.
				w = slices.Clone(w)
				source.Shuffle(len(w)*source.Intn(2), func(i int, j int) { w[i], w[j] = w[j], w[i] })
			}
			more, can := w, areWants(l, w) && hasPath(l, path) && !slices.ContainsFunc(w, func(one impl.Want) bool { return one.Path == path })
			if can {
				more = append(slices.Clone(w), want(path, 0))
				slices.SortFunc(more, func(a impl.Want, b impl.Want) int { return a.Path - b.Path })
			}
			if got, ok := impl.AddWant(l, w, path); ok != can || !slices.Equal(got, more) {
				t.Errorf("AddWant(%v, %v, %d) = %v, %v; want %v, %v", l, w, path, got, ok, more, can)
			}
		}
	}
	for _, l := range notCrossings() {
		for _, w := range [][]impl.Want{nil, {want(1, 0)}, {want(2, 7), want(1, 3)}} {
			for _, path := range []int{1, 2, 3, 7, 20, l[0].Id} {
				if got, ok := impl.AddWant(l, w, path); ok || !slices.Equal(got, w) {
					t.Errorf("AddWant(%v, %v, %d) = %v, %v", l, w, path, got, ok)
				}
			}
		}
	}
}

// Promise 15: nobody who sees green goes on waiting, and everybody else waits one second longer.
func TestNobodyWhoSeesGreenGoesOnWaiting(t *testing.T) {
	source := rand.New(rand.NewSource(160))
	gone := 0
	for _, c := range someAsked(161, 40) {
		green := map[int]int{}
		for second := range 200 {
			if path := c.l[source.Intn(len(c.l))].Id; source.Intn(5) == 0 {
				c.w, _ = impl.AddWant(c.l, c.w, path)
			}
			x, left := impl.StepAsk(c.l, c.x, c.w)
			wantSafeStep(t, steered{c.l, x}, second, green)
			lights := impl.LightsOf(c.l, x)
			for i, p := range c.l {
				before := slices.IndexFunc(c.w, func(one impl.Want) bool { return one.Path == p.Id })
				after := slices.IndexFunc(left, func(one impl.Want) bool { return one.Path == p.Id })
				if before < 0 && after >= 0 || after >= 0 && lights[i] == impl.LtGreen || before >= 0 && after < 0 && lights[i] != impl.LtGreen {
					t.Fatalf("%v, %v, %v: the wants become %v, and the lights %v", c.l, c.x, c.w, left, lights)
				}
				if after >= 0 && left[after].Wait != min(c.w[before].Wait+1, 100000) {
					t.Fatalf("%v, %v, %v: the wants become %v", c.l, c.x, c.w, left)
				}
			}
			if !impl.AreWants(c.l, left) {
				t.Fatalf("%v, %v, %v: the wants %v are not valid", c.l, c.x, c.w, left)
			}
			gone += len(c.w) - len(left)
			c.x, c.w = x, left
		}
	}
	if gone < 500 {
		t.Error(gone)
	}
}

// Everyone who waits is served, each within the time of all stages, also while others go on asking for what is open.
func TestEveryoneWhoAsksIsServed(t *testing.T) {
	source := rand.New(rand.NewSource(162))
	for i, c := range someControls(163, 30) {
		if i%2 > 0 {
			continue
		}
		x, w := c.x, []impl.Want{}
		bound := (len(c.l) + 1) * (impl.MaxGreen + impl.LongestClear(c.l) + 1)
		for range 3 * bound {
			for _, p := range c.l {
				if source.Intn(3) > 0 {
					w, _ = impl.AddWant(c.l, w, p.Id)
				}
			}
			x, w = impl.StepAsk(c.l, x, w)
			for _, one := range w {
				if one.Wait > bound {
					t.Fatalf("%v, %v: %v waits", c.l, x, one)
				}
			}
		}
	}
}

func TestAskingIsOnCopies(t *testing.T) {
	for _, c := range append(someAsked(164, 40), notAsked()...) {
		w, wholeW := roomy(c.w, want(3, 7), want(77, 77))
		stage, wholeStage := roomy(c.x.Stage, 8, 79)
		wants, numbers := slices.Clone(wholeW), slices.Clone(wholeStage)
		wantUntouchedControl(t, "a function of wants", c.steered, func(l []impl.Path, x impl.Control) {
			impl.AreWants(l, w)
			impl.LongestWant(w, stage)
			impl.MustChange(l, x, w)
			spoil(impl.NextStage(l, x, w))
			wantOwnControl(t, "StepAsk", c.steered, func() impl.Control {
				after, _ := impl.StepAsk(l, x, w)
				return after
			})
			wantOwnWants(t, "StepAsk", func() []impl.Want {
				_, left := impl.StepAsk(l, x, w)
				return left
			})
			for id := range 5 {
				wantOwnWants(t, "AddWant", func() []impl.Want {
					more, _ := impl.AddWant(l, w, id)
					return more
				})
			}
		})
		if !slices.Equal(wholeW, wants) || !slices.Equal(wholeStage, numbers) {
			t.Errorf("changed: the wants %v to %v, or the stage %v to %v", wants, wholeW, numbers, wholeStage)
		}
	}
}

// wantOwnWants checks that a write to a result, its spare capacity included, does not change another result.
func wantOwnWants(t *testing.T, name string, call func() []impl.Want) {
	t.Helper()
	first, second := call(), call()
	before := slices.Clone(second)
	for i := range first[:cap(first)] {
		first[:cap(first)][i] = want(-1, -1)
	}
	if third := call(); !slices.Equal(second, before) || !slices.Equal(third, before) {
		t.Errorf("%s: a write to a result changes %v to %v, and the next one to %v", name, before, second, third)
	}
}
