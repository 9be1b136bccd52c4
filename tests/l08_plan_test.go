package tests

import (
	"math"
	"math/rand"
	"slices"
	"testing"

	"loop.example/g03006/impl"
)

func part(green int, ids ...int) impl.Part { return impl.Part{Stage: ids, Green: green} }

// sixStages is a crossing whose cover has MaxParts stages, and sevenStages one whose cover has one more.
func sixStages() []impl.Path {
	return []impl.Path{car(1, 3, 0), car(2, 1, 2), car(3, 1, 0), car(4, 3, 2), walk(5, 2), car(6, 2, 3), walk(7, 0)}
}

func sevenStages() []impl.Path {
	return []impl.Path{car(1, 2, 1), walk(2, 0), car(3, 3, 0), car(4, 2, 0), car(5, 3, 1), car(6, 1, 0), walk(7, 1), car(8, 0, 1)}
}

// leastGreen is the oracle for LeastGreen.
func leastGreen(l []impl.Path, stage []int) int {
	for _, id := range stage {
		for _, p := range l {
			if p.Id == id {
				if p.Kind == impl.PtWalk {
					return 7
				}
				break
			}
		}
	}
	return 5
}

func stagesIn(p []impl.Part) [][]int {
	stages := [][]int{}
	for _, one := range p {
		stages = append(stages, one.Stage)
	}
	return stages
}

// isPlan is the oracle for IsPlan of a list of paths for which ArePaths holds.
func isPlan(l []impl.Path, p []impl.Part) bool {
	for _, one := range p {
		if len(one.Stage) == 0 || !areTogether(l, one.Stage) || one.Green < leastGreen(l, one.Stage) || one.Green > 60 {
			return false
		}
	}
	for _, one := range l {
		if !slices.Contains(slices.Concat(stagesIn(p)...), one.Id) {
			return false
		}
	}
	return len(p) >= 1 && len(p) <= 6
}

// clearBehind is the oracle for how long the part with the index i of a plan clears.
func clearBehind(l []impl.Path, p []impl.Part, i int) int {
	return clearSecondsBetween(l, p[i].Stage, p[(i+1)%len(p)].Stage)
}

// startOf is the oracle for StartOf of a plan, and, with the number of parts as index, for Cycle.
func startOf(l []impl.Path, p []impl.Part, i int) int {
	start := 0
	for before := range i {
		start += p[before].Green + clearBehind(l, p, before)
	}
	return start
}

func cycleOf(l []impl.Path, p []impl.Part) int { return startOf(l, p, len(p)) }

// planned is a crossing with a plan of it.
type planned struct {
	l []impl.Path
	p []impl.Part
}

// drawStage draws a stage with one path and others that go together with it.
func drawStage(source *rand.Rand, l []impl.Path, id int) []int {
	ids := []int{id}
	for _, i := range source.Perm(len(l)) {
		more := put(ids, l[i].Id)
		if source.Intn(3) > 0 && areTogether(l, more) {
			ids = more
		}
	}
	return ids
}

// drawPlan draws a plan, or what would be one but for its number of parts.
func drawPlan(source *rand.Rand, l []impl.Path) []impl.Part {
	var p []impl.Part
	for {
		var left []int
		for _, one := range l {
			if !slices.Contains(slices.Concat(stagesIn(p)...), one.Id) {
				left = append(left, one.Id)
			}
		}
		if len(left) == 0 && (len(p) >= 5 || source.Intn(3) > 0) {
			break
		}
		id := l[source.Intn(len(l))].Id
		if len(left) > 0 {
			id = left[source.Intn(len(left))]
		}
		stage := drawStage(source, l, id)
		least := leastGreen(l, stage)
		p = append(p, impl.Part{Stage: stage, Green: []int{least, 60, least + source.Intn(61-least)}[source.Intn(3)]})
	}
	source.Shuffle(len(p), func(i int, j int) { p[i], p[j] = p[j], p[i] })
	return p
}

// somePlans are plans of crossings of all lengths but 0, of one part and of more.
func somePlans(seed int64, count int) []planned {
	source := rand.New(rand.NewSource(seed))
	var plans []planned
	for _, l := range stagedCrossings(seed, count) {
		for try := 0; len(l) > 0 && try < 20; try++ {
			if p := drawPlan(source, l); len(p) <= impl.MaxParts {
				plans = append(plans, planned{l, p})
				break
			}
		}
	}
	return plans
}

// examples are plans of crossings that the tests know.
func examples() []planned {
	return []planned{
		{cross(), []impl.Part{part(5, 1), part(7, 2, 3, 4)}}, {cross(), []impl.Part{part(60, 1), part(60, 2, 3, 4)}}, {cross(), []impl.Part{part(5, 1), part(5, 2, 4), part(7, 3)}},
		// Of one part, which has all paths.
		{cross()[:1], []impl.Part{part(5, 1)}}, {friends(), []impl.Part{part(33, 3, 4, 5, 6, 11, 19)}}, {walks(9, 12), []impl.Part{part(60, 9, 10, 11, 12, 13, 14, 15, 16, 17, 18, 19, 20)}},
		// Of two parts with the same stage.
		{cross()[:1], []impl.Part{part(5, 1), part(9, 1)}},
		// Path 2 is in two parts one after the other, and then in the last part and the first one.
		{cross(), []impl.Part{part(5, 2, 4), part(7, 2, 3), part(5, 1)}}, {cross(), []impl.Part{part(7, 2, 3), part(5, 1), part(5, 2, 4)}},
		// Path 1 is in each part, and so clears for none.
		{[]impl.Path{walk(1, 3), car(2, 0, 2), car(3, 1, 2)}, []impl.Part{part(7, 1, 2), part(8, 1, 3)}},
		// Car 1 clears for a shorter time than walk 2.
		{[]impl.Path{car(1, 0, 2), walk(2, 3), bus(3, 3, 1)}, []impl.Part{part(7, 1, 2), part(5, 3)}},
	}
}

// broken are lists of parts that are a plan but for one thing, and some that still are one.
func broken(p []impl.Part) [][]impl.Part {
	lists := [][]impl.Part{nil, {}, append(slices.Clone(p), impl.Part{}), append(slices.Clone(p), part(30, 99))}
	for i, one := range p {
		with := func(changed impl.Part) { lists = append(lists, slices.Concat(p[:i], []impl.Part{changed}, p[i+1:])) }
		lists = append(lists, slices.Concat(p[:i], p[i+1:]), slices.Insert(slices.Clone(p), i, impl.Part{Green: 30}), slices.Insert(slices.Clone(p), i, one))
		for _, green := range []int{math.MinInt, -5, 0, 1, 4, 5, 6, 7, 60, 61, 300, 1<<32 + 7, math.MaxInt} {
			with(impl.Part{Stage: one.Stage, Green: green})
		}
		last := one.Stage[len(one.Stage)-1]
		for _, stage := range [][]int{nil, {}, one.Stage[1:], one.Stage[:len(one.Stage)-1], append(slices.Clone(one.Stage), last), append(slices.Clone(one.Stage), 99), slices.Insert(slices.Clone(one.Stage), 0, 0), slices.Insert(slices.Clone(one.Stage), 0, math.MinInt)} {
			with(impl.Part{Stage: stage, Green: one.Green})
		}
		for _, other := range p {
			with(impl.Part{Stage: other.Stage, Green: one.Green})
			more := slices.Compact(slices.Sorted(slices.Values(slices.Concat(one.Stage, other.Stage))))
			with(impl.Part{Stage: more, Green: one.Green})
			slices.Reverse(more)
			with(impl.Part{Stage: more, Green: one.Green})
		}
	}
	return lists
}

// notPlans are lists of paths, for which ArePaths holds or not, with lists of parts for which IsPlan is false.
func notPlans() []planned {
	lists := []planned{{nil, nil}, {nil, []impl.Part{part(7)}}, {nil, []impl.Part{part(5, 1)}}, {cross(), []impl.Part{part(math.MaxInt, math.MaxInt), part(math.MinInt, math.MinInt)}}}
	for _, c := range examples() {
		for _, p := range broken(c.p) {
			if !isPlan(c.l, p) {
				lists = append(lists, planned{c.l, p})
			}
		}
		lists = append(lists, planned{nil, c.p}, planned{c.l[1:], c.p})
	}
	for _, l := range notCrossings() {
		var singles []impl.Part
		for _, one := range l[:min(len(l), impl.MaxParts)] {
			singles = append(singles, part(30, one.Id))
		}
		lists = append(lists, planned{l, nil}, planned{l, singles}, planned{l, []impl.Part{part(5, 1), part(7, 2, 3, 4)}})
	}
	return lists
}

func TestPlanLimits(t *testing.T) {
	if impl.MinGreen != 5 || impl.MinWalk != 7 || impl.MaxGreen != 60 || impl.MaxParts != 6 {
		t.Error(impl.MinGreen, impl.MinWalk, impl.MaxGreen, impl.MaxParts)
	}
}

func TestLeastGreen(t *testing.T) {
	// The first path with an Id decides; a walk need not be valid.
	again := []impl.Path{car(2, 0, 2), walk(2, 0), walk(3, 1), bus(3, 0, 1), path(0, impl.PtWalk, 9, -9), path(-7, impl.PtWalk, 0, 2), path(math.MaxInt, impl.PtWalk, 0, 0)}
	cases := []struct {
		l     []impl.Path
		stage []int
		want  int
	}{
		{cross(), []int{1}, 5}, {cross(), []int{3}, 7}, {cross(), []int{4}, 5}, {cross(), []int{2, 3, 4}, 7}, {cross(), []int{2, 4}, 5}, {cross(), []int{1, 2}, 5}, {cross(), nil, 5}, {cross(), []int{}, 5},
		// The list of numbers need not be a stage.
		{cross(), []int{1, 2, 3, 4}, 7}, {cross(), []int{4, 3, 2}, 7}, {cross(), []int{3, 3}, 7}, {cross(), []int{9}, 5}, {cross(), []int{9, 3}, 7}, {cross(), []int{3, 9}, 7}, {cross(), []int{0, -1, math.MinInt, math.MaxInt}, 5},
		{nil, nil, 5}, {nil, []int{3}, 5}, {walks(1, 12), []int{12}, 7}, {walks(1, 13), []int{13}, 7}, {walks(1, 13), []int{14}, 5},
		{again, []int{2}, 5}, {again, []int{3}, 7}, {again, []int{0}, 7}, {again, []int{-7}, 7}, {again, []int{math.MaxInt}, 7}, {again, []int{math.MinInt}, 5},
		{[]impl.Path{path(1, 0, 2, 2), path(2, 4, 2, 2)}, []int{1, 2}, 5},
	}
	for _, c := range cases {
		if got := impl.LeastGreen(c.l, c.stage); got != c.want {
			t.Errorf("LeastGreen(%v, %v) = %d; want %d", c.l, c.stage, got, c.want)
		}
	}
	for _, l := range append(stagedCrossings(81, 40), notCrossings()...) {
		for _, stage := range append(oddIds(), []int{1}, []int{2}, []int{3}, []int{20}, []int{1, 20}) {
			if got := impl.LeastGreen(l, stage); got != leastGreen(l, stage) {
				t.Errorf("LeastGreen(%v, %v) = %d", l, stage, got)
			}
		}
	}
}

func TestIsPlan(t *testing.T) {
	six := []impl.Part{part(5, 1), part(5, 1), part(60, 1), part(5, 1), part(6, 1), part(7, 1)}
	cases := []struct {
		l    []impl.Path
		p    []impl.Part
		want bool
	}{
		// No part, one, MaxParts and one more.
		{cross(), nil, false}, {cross(), []impl.Part{}, false}, {nil, nil, false}, {cross()[:1], []impl.Part{part(5, 1)}, true}, {cross()[:1], six[:5], true}, {cross()[:1], six, true}, {cross()[:1], append(slices.Clone(six), part(5, 1)), false},
		// A Green at its limits, with a walk and without one.
		{cross(), []impl.Part{part(5, 1), part(7, 2, 3, 4)}, true}, {cross(), []impl.Part{part(4, 1), part(7, 2, 3, 4)}, false}, {cross(), []impl.Part{part(5, 1), part(6, 2, 3, 4)}, false}, {cross(), []impl.Part{part(60, 1), part(60, 2, 3, 4)}, true},
		{cross(), []impl.Part{part(61, 1), part(7, 2, 3, 4)}, false}, {cross(), []impl.Part{part(5, 1), part(61, 2, 3, 4)}, false}, {cross(), []impl.Part{part(5, 1), part(math.MaxInt, 2, 3, 4)}, false}, {cross(), []impl.Part{part(math.MinInt, 1), part(7, 2, 3, 4)}, false},
		// A stage that is empty, or none.
		{cross(), []impl.Part{part(5, 1), part(5), part(7, 2, 3, 4)}, false}, {cross(), []impl.Part{part(5, 1), part(7, 2, 3, 4), {Stage: []int{}, Green: 9}}, false}, {cross(), []impl.Part{part(7, 1, 2), part(7, 2, 3, 4)}, false}, {cross(), []impl.Part{part(5, 1), part(7, 4, 3, 2)}, false}, {cross(), []impl.Part{part(5, 1), part(7, 2, 3, 4, 4)}, false},
		// A number that is no path's, and stages that do not cover.
		{cross(), []impl.Part{part(5, 1), part(7, 2, 3, 4), part(5, 9)}, false}, {cross(), []impl.Part{part(5, 1), part(7, 2, 3, 4, 9)}, false}, {cross(), []impl.Part{part(5, 0, 1), part(7, 2, 3, 4)}, false},
		{cross(), []impl.Part{part(7, 2, 3, 4)}, false}, {cross(), []impl.Part{part(5, 1), part(5, 2, 4)}, false}, {cross(), []impl.Part{part(5, 1), part(5, 2, 4), part(7, 3)}, true}, {nil, []impl.Part{part(5)}, false}, {nil, []impl.Part{part(5, 1)}, false},
		// Parts may have the same stage, and paths may be in several parts.
		{cross(), []impl.Part{part(5, 1), part(7, 2, 3), part(5, 1), part(5, 2, 4)}, true},
	}
	for _, c := range cases {
		if got := impl.IsPlan(c.l, c.p); got != c.want || got != isPlan(c.l, c.p) {
			t.Errorf("IsPlan(%v, %v) = %v", c.l, c.p, got)
		}
	}
	for _, c := range append(examples(), somePlans(82, 400)...) {
		if !impl.IsPlan(c.l, c.p) {
			t.Errorf("IsPlan(%v, %v) is false", c.l, c.p)
		}
		for _, p := range broken(c.p) {
			if got := impl.IsPlan(c.l, p); got != isPlan(c.l, p) {
				t.Errorf("IsPlan(%v, %v) = %v", c.l, p, got)
			}
		}
	}
	for _, ids := range oddIds() {
		if impl.IsPlan(cross(), []impl.Part{part(5, 1), part(7, 2, 3, 4), part(30, ids...)}) || impl.IsPlan(nil, []impl.Part{part(30, ids...)}) {
			t.Errorf("IsPlan with the stage %v is true", ids)
		}
	}
}

// What is no plan has no cycle and no starts.
func TestNotPlans(t *testing.T) {
	for _, c := range notPlans() {
		if impl.IsPlan(c.l, c.p) || impl.Cycle(c.l, c.p) != 0 {
			t.Errorf("%v, %v: IsPlan %v, Cycle %d", c.l, c.p, impl.IsPlan(c.l, c.p), impl.Cycle(c.l, c.p))
		}
		for _, i := range []int{math.MinInt, -1, 0, 1, len(c.p) - 1, len(c.p), math.MaxInt} {
			if got := impl.StartOf(c.l, c.p, i); got != -1 {
				t.Errorf("StartOf(%v, %v, %d) = %d", c.l, c.p, i, got)
			}
		}
	}
}

func TestCycle(t *testing.T) {
	want := []int{19, 127, 5 + 2 + 5 + 0 + 7 + 5, 5, 33, 60, 14, 5 + 0 + 7 + 5 + 5 + 2, 7 + 5 + 5 + 2 + 5 + 0, 7 + 2 + 8 + 2, 7 + 5 + 5 + 3}
	for i, c := range examples() {
		if got := impl.Cycle(c.l, c.p); got != want[i] {
			t.Errorf("Cycle(%v, %v) = %d; want %d", c.l, c.p, got, want[i])
		}
	}
	for _, c := range append(examples(), somePlans(83, 600)...) {
		if got := impl.Cycle(c.l, c.p); got != cycleOf(c.l, c.p) {
			t.Errorf("Cycle(%v, %v) = %d; want %d", c.l, c.p, got, cycleOf(c.l, c.p))
		}
	}
}

func TestStartOf(t *testing.T) {
	three := examples()[2]
	for i, want := range []int{0, 7, 12} {
		if got := impl.StartOf(three.l, three.p, i); got != want {
			t.Errorf("StartOf(%v, %v, %d) = %d; want %d", three.l, three.p, i, got, want)
		}
	}
	for _, c := range append(examples(), somePlans(84, 300)...) {
		for _, i := range around(0, len(c.p)-1) {
			want := -1
			if i >= 0 && i < len(c.p) {
				want = startOf(c.l, c.p, i)
			}
			if got := impl.StartOf(c.l, c.p, i); got != want {
				t.Errorf("StartOf(%v, %v, %d) = %d; want %d", c.l, c.p, i, got, want)
			}
		}
	}
}

// samePlan is the oracle for EqualPlans.
func samePlan(a []impl.Part, b []impl.Part) bool {
	if len(a) != len(b) {
		return false
	}
	for i := range a {
		if a[i].Green != b[i].Green || !slices.Equal(a[i].Stage, b[i].Stage) {
			return false
		}
	}
	return true
}

// Promise 8: the plan for paths is one, where the cover of the paths has as many stages as a plan can have parts.
func TestThePlanForPathsIsOne(t *testing.T) {
	many := 0
	for _, l := range append(stagedCrossings(85, 1500), sixStages(), sevenStages()) {
		p, stages := impl.PlanFor(l), cover(l)
		if len(stages) == 0 || len(stages) > impl.MaxParts {
			many++
			if len(p) != 0 {
				t.Errorf("PlanFor(%v) = %v; its cover is %v", l, p, stages)
			}
			continue
		}
		if !impl.IsPlan(l, p) || !isPlan(l, p) || !sameStages(stagesIn(p), stages) {
			t.Errorf("PlanFor(%v) = %v; its cover is %v", l, p, stages)
		}
		for _, one := range p {
			if one.Green != leastGreen(l, one.Stage) {
				t.Errorf("PlanFor(%v) = %v; the least green of %v is %d", l, p, one.Stage, leastGreen(l, one.Stage))
			}
		}
	}
	if many < 3 {
		t.Error(many)
	}
}

func TestPlanFor(t *testing.T) {
	cases := []struct {
		l    []impl.Path
		want []impl.Part
	}{
		{nil, nil}, {[]impl.Path{}, nil}, {cross(), []impl.Part{part(5, 1), part(7, 2, 3, 4)}}, {cross()[:1], []impl.Part{part(5, 1)}}, {friends(), []impl.Part{part(7, 3, 4, 5, 6, 11, 19)}},
		{rivals(), []impl.Part{part(5, 2), part(5, 9), part(5, 10), part(7, 20)}}, {[]impl.Path{car(1, 0, 3), car(2, 1, 2), car(3, 3, 2), walk(20, 1)}, []impl.Part{part(5, 1, 2), part(7, 1, 3, 20)}},
		{sevenStages(), nil}, {walks(1, 13), nil}, {[]impl.Path{{}}, nil},
	}
	for _, c := range cases {
		if got := impl.PlanFor(c.l); !samePlan(got, c.want) {
			t.Errorf("PlanFor(%v) = %v; want %v", c.l, got, c.want)
		}
	}
	if len(cover(sixStages())) != 6 || len(impl.PlanFor(sixStages())) != 6 || len(cover(sevenStages())) != 7 {
		t.Error(cover(sixStages()), cover(sevenStages()))
	}
	for _, l := range notCrossings() {
		if got := impl.PlanFor(l); len(got) != 0 {
			t.Errorf("PlanFor(%v) = %v", l, got)
		}
	}
}

func TestEqualPlans(t *testing.T) {
	p := []impl.Part{part(5, 1), part(7, 2, 3, 4)}
	different := [][]impl.Part{
		nil, p[:1], p[1:], {p[1], p[0]}, append(slices.Clone(p), part(5, 1)), append(slices.Clone(p), impl.Part{}), slices.Concat(p, p),
		{part(6, 1), part(7, 2, 3, 4)}, {part(5, 1), part(8, 2, 3, 4)}, {part(5, 1), part(math.MinInt, 2, 3, 4)}, {part(5, 1), part(1<<32+7, 2, 3, 4)},
		{part(5, 2), part(7, 2, 3, 4)}, {part(5, 1), part(7, 2, 3)}, {part(5, 1), part(7, 2, 4, 3)}, {part(5, 1), part(7, 2, 3, 4, 5)}, {part(5), part(7, 2, 3, 4)}, {part(5, 1, 2), part(7, 3, 4)}, {part(7, 1), part(5, 2, 3, 4)},
		{part(0), part(0)}, {part(0)}, {part(math.MaxInt, math.MaxInt, math.MinInt)}, {part(math.MaxInt, math.MinInt, math.MaxInt)},
	}
	for i, a := range append(different, p) {
		for j, b := range append(different, p) {
			if got := impl.EqualPlans(a, b); got != (i == j) {
				t.Errorf("EqualPlans(%v, %v) = %v", a, b, got)
			}
		}
	}
	if !impl.EqualPlans(nil, []impl.Part{}) || !impl.EqualPlans([]impl.Part{{}}, []impl.Part{{Stage: []int{}}}) || impl.EqualPlans(nil, []impl.Part{{}}) || !impl.EqualPlans(p, copyParts(p)) {
		t.Error("nil and empty lists, and copies")
	}
}

// copyParts returns the parts in other memory, their spare capacity included.
func copyParts(p []impl.Part) []impl.Part {
	var copied []impl.Part
	for _, one := range p[:cap(p)] {
		copied = append(copied, impl.Part{Stage: slices.Clone(one.Stage[:cap(one.Stage)])[:len(one.Stage)], Green: one.Green})
	}
	return copied[:len(p)]
}

// wantUntouchedPlan calls visit with the paths and the parts in greater arrays, and checks that nothing in these is changed.
func wantUntouchedPlan(t *testing.T, name string, c planned, visit func(l []impl.Path, p []impl.Part)) {
	t.Helper()
	l, wholeL := roomy(c.l, car(5, 0, 1), car(6, 1, 0))
	var parts []impl.Part
	var wholeStages [][]int
	for _, one := range c.p {
		stage, whole := roomy(one.Stage, 4, 77)
		parts, wholeStages = append(parts, impl.Part{Stage: stage, Green: one.Green}), append(wholeStages, whole)
	}
	p, wholeP := roomy(parts, part(9, 8, 9), impl.Part{})
	paths, plan, stages := slices.Clone(wholeL), copyParts(wholeP), copyStages(wholeStages)
	visit(l, p)
	if !slices.Equal(wholeL, paths) || !samePlan(wholeP, plan) || !sameStages(wholeStages, stages) {
		t.Errorf("%s changes %v to %v, %v to %v, or the stages to %v", name, paths, wholeL, plan, wholeP, wholeStages)
	}
}

// spoilPlan overwrites the stage of the part with the index i with all its spare capacity.
func spoilPlan(p []impl.Part, i int) { spoil(p[i].Stage) }

// A write to one stage of a result changes none of the others, and no later result.
func TestPlansAreNewMemory(t *testing.T) {
	for _, l := range append(stagedCrossings(86, 60), sixStages()) {
		want := copyParts(impl.PlanFor(l))
		other := impl.PlanFor(l)
		for i := range want {
			p := impl.PlanFor(l)
			spoilPlan(p, i)
			for j := range want {
				if j != i && !slices.Equal(p[j].Stage, want[j].Stage) {
					t.Errorf("PlanFor(%v): a write to the stage %d changes %v to %v", l, i, want[j], p[j])
				}
			}
			clear(p[:cap(p)])
		}
		if !samePlan(other, want) || !samePlan(impl.PlanFor(l), want) {
			t.Errorf("PlanFor(%v): a write to a result changes %v to %v or %v", l, want, other, impl.PlanFor(l))
		}
	}
}

func TestPlansLeaveTheirArguments(t *testing.T) {
	for _, c := range slices.Concat(examples(), somePlans(87, 40), notPlans()) {
		wantUntouchedPlan(t, "IsPlan, Cycle, StartOf, LeastGreen, PlanFor or EqualPlans", c, func(l []impl.Path, p []impl.Part) {
			impl.IsPlan(l, p)
			impl.Cycle(l, p)
			impl.StartOf(l, p, len(p)-1)
			impl.EqualPlans(p, p)
			impl.PlanFor(l)
			for _, one := range p {
				impl.LeastGreen(l, one.Stage)
			}
		})
	}
}
