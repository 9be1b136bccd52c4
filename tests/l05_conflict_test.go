package tests

import (
	"math"
	"math/rand"
	"slices"
	"testing"

	"loop.example/g03006/impl"
)

// roomy returns a copy of list in an array that goes on with what is behind it, and the whole array.
func roomy[T any](list []T, behind ...T) ([]T, []T) {
	whole := slices.Concat(list, behind)
	return whole[:len(list)], whole
}

// cross is the crossing of most examples: two cars that cross, a walk over arm 0, and a bus.
func cross() []impl.Path {
	return []impl.Path{car(1, 0, 2), car(2, 1, 3), walk(3, 0), bus(4, 3, 1)}
}

// withIds returns the forms with these Ids.
func withIds(ids []int, forms []impl.Path) []impl.Path {
	l := make([]impl.Path, len(ids))
	for i, id := range ids {
		l[i] = forms[i]
		l[i].Id = id
	}
	return l
}

// someCrossings are lists of paths for which ArePaths holds, of each length, drawn with their Ids.
func someCrossings(seed int64, count int) [][]impl.Path {
	source := rand.New(rand.NewSource(seed))
	forms := validForms()
	lists := [][]impl.Path{nil, {}, cross()}
	for n := range count {
		ids := source.Perm(20)[:n%(impl.MaxPaths+1)]
		slices.Sort(ids)
		l := []impl.Path{}
		for _, id := range ids {
			p := forms[source.Intn(len(forms))]
			p.Id = id + 1
			l = append(l, p)
		}
		lists = append(lists, l)
	}
	return lists
}

// notCrossings are lists for which ArePaths does not hold.
func notCrossings() [][]impl.Path {
	l := cross()
	lists := [][]impl.Path{
		{l[1], l[0]}, {l[0], l[0]}, {l[0], l[2], l[1], l[3]}, {l[0], l[1], l[1], l[3]}, {l[3], l[2], l[1], l[0]},
		{l[0], car(1, 1, 3)}, {walk(20, 0), walk(1, 1)}, {walk(7, 0), walk(7, 1)},
		walks(1, impl.MaxPaths+1), walks(1, 20), walks(1, 21),
	}
	for _, p := range invalidPaths() {
		lists = append(lists, []impl.Path{p}, []impl.Path{p, l[1], l[2]}, []impl.Path{l[0], p, l[2]}, []impl.Path{l[0], l[1], p})
		// Here the Ids ascend, as far as they can.
		p.Id = 2
		if !impl.IsPath(p) {
			lists = append(lists, []impl.Path{l[0], p, l[2]})
		}
	}
	return lists
}

// walks returns so many walks with Ids from first on.
func walks(first int, count int) []impl.Path {
	l := []impl.Path{}
	for i := range count {
		l = append(l, walk(first+i, i%4))
	}
	return l
}

// collide is the oracle for Conflict of two valid paths. It takes the ways of cars as lines between the corners of an octagon.
func collide(a impl.Path, b impl.Path) bool {
	if a.Kind == impl.PtWalk && b.Kind == impl.PtWalk {
		return false
	}
	if a.Kind == impl.PtWalk || b.Kind == impl.PtWalk {
		return a.From == b.From || a.From == b.To || a.To == b.From || a.To == b.To
	}
	if a.From == b.From {
		return false
	}
	return a.To == b.To || linesCross([2]int{2 * a.From, 2*a.To + 1}, [2]int{2 * b.From, 2*b.To + 1})
}

func linesCross(a [2]int, b [2]int) bool {
	side := func(line [2]int, place int) int {
		corners := [8][2]int{{2, -1}, {2, 1}, {1, 2}, {-1, 2}, {-2, 1}, {-2, -1}, {-1, -2}, {1, -2}}
		p, q, r := corners[line[0]], corners[line[1]], corners[place]
		return (q[0]-p[0])*(r[1]-p[1]) - (q[1]-p[1])*(r[0]-p[0])
	}
	return side(a, b[0])*side(a, b[1]) < 0 && side(b, a[0])*side(b, a[1]) < 0
}

func TestArePaths(t *testing.T) {
	if impl.MaxPaths != 12 {
		t.Error(impl.MaxPaths)
	}
	for _, l := range someCrossings(1, 300) {
		if !impl.ArePaths(l) {
			t.Errorf("ArePaths(%v) is false", l)
		}
	}
	for _, l := range [][]impl.Path{walks(1, 12), walks(9, 12), {walk(20, 3)}, {walk(1, 0), bus(20, 0, 1)}} {
		if !impl.ArePaths(l) {
			t.Errorf("ArePaths(%v) is false", l)
		}
	}
	for _, l := range notCrossings() {
		if impl.ArePaths(l) {
			t.Errorf("ArePaths(%v) is true", l)
		}
	}
	for i := range impl.MaxPaths {
		for _, p := range invalidPaths() {
			l := walks(1, impl.MaxPaths)
			l[i] = p
			if impl.ArePaths(l) {
				t.Errorf("ArePaths(%v) is true", l)
			}
		}
	}
}

func TestConflict(t *testing.T) {
	cases := []struct {
		a, b impl.Path
		want bool
	}{
		// Walks never conflict, the same arm or not.
		{walk(1, 0), walk(2, 0), false}, {walk(1, 0), walk(2, 1), false}, {walk(1, 3), walk(2, 1), false},
		// A walk and who comes from its arm, leaves by it, or keeps away from it.
		{walk(1, 0), car(2, 0, 2), true}, {walk(1, 2), car(2, 0, 2), true}, {walk(1, 1), car(2, 0, 2), false}, {walk(1, 3), car(2, 0, 2), false},
		{walk(1, 1), bus(2, 1, 0), true}, {walk(1, 0), bus(2, 1, 0), true}, {walk(1, 2), bus(2, 1, 0), false}, {walk(1, 3), bus(2, 1, 0), false},
		// Two from the same arm.
		{car(1, 0, 2), car(2, 0, 1), false}, {car(1, 0, 2), car(2, 0, 2), false}, {car(1, 3, 2), bus(2, 3, 1), false}, {car(1, 3, 2), bus(2, 3, 2), false},
		// Two that leave by the same arm.
		{car(1, 0, 2), car(2, 1, 2), true}, {car(1, 0, 2), bus(2, 3, 2), true}, {bus(1, 0, 3), car(2, 1, 3), true}, {bus(1, 2, 0), bus(2, 1, 0), true},
		// Two that cross, and two that do not.
		{car(1, 0, 2), car(2, 1, 3), true}, {car(1, 0, 2), bus(2, 3, 1), true}, {bus(1, 0, 1), bus(2, 1, 3), true}, {car(1, 0, 1), car(2, 3, 0), true}, {car(1, 0, 1), car(2, 1, 2), true},
		{car(1, 0, 2), car(2, 2, 0), false}, {car(1, 0, 3), car(2, 2, 1), false}, {car(1, 0, 1), car(2, 2, 3), false}, {car(1, 0, 3), bus(2, 1, 0), false}, {bus(1, 1, 3), bus(2, 3, 1), false},
	}
	for _, c := range cases {
		if impl.Conflict(c.a, c.b) != c.want || impl.Conflict(c.b, c.a) != c.want {
			t.Errorf("Conflict(%v, %v) = %v; the other way %v", c.a, c.b, impl.Conflict(c.a, c.b), impl.Conflict(c.b, c.a))
		}
	}
}

// Each way over the crossing against each other one, whatever their Ids.
func TestConflictOfAllForms(t *testing.T) {
	pairs := 0
	for _, a := range validForms() {
		for _, b := range validForms() {
			for _, ids := range [][2]int{{1, 2}, {2, 1}, {5, 5}, {1, 20}, {20, 19}} {
				a.Id, b.Id = ids[0], ids[1]
				if got := impl.Conflict(a, b); got != collide(a, b) {
					t.Errorf("Conflict(%v, %v) = %v", a, b, got)
				}
			}
			if collide(a, b) {
				pairs++
			}
		}
	}
	// 16 pairs of ways cross and 12 leave by the same arm, each with two kinds on either side; a walk meets 12 of the 24. All are met both ways.
	if pairs != 2*(4*(16+12)+4*12) {
		t.Error(pairs)
	}
}

// Promise 5: of two paths the first conflicts with the second if the second does with the first; nothing conflicts with itself.
func TestPathsConflictBothWays(t *testing.T) {
	all := slices.Concat(validForms(), invalidPaths())
	for _, a := range all {
		for _, b := range all {
			if impl.Conflict(a, b) != impl.Conflict(b, a) {
				t.Errorf("Conflict(%v, %v) = %v, but not the other way", a, b, impl.Conflict(a, b))
			}
		}
		if impl.Conflict(a, a) {
			t.Errorf("%v conflicts with itself", a)
		}
	}
	for _, l := range someCrossings(2, 300) {
		for _, a := range l {
			for _, id := range impl.ConflictsOf(l, a.Id) {
				if !slices.Contains(impl.ConflictsOf(l, id), a.Id) {
					t.Errorf("%v: %d conflicts with %d, but not the other way", l, a.Id, id)
				}
			}
		}
	}
}

func TestConflictOfInvalidPaths(t *testing.T) {
	for _, bad := range invalidPaths() {
		for _, p := range append(validForms(), invalidPaths()...) {
			if impl.Conflict(bad, p) || impl.Conflict(p, bad) {
				t.Errorf("%v, which is not valid, and %v: Conflict is true", bad, p)
			}
		}
	}
}

func TestConflictsOf(t *testing.T) {
	l := cross()
	cases := []struct {
		l    []impl.Path
		id   int
		want []int
	}{
		{l, 1, []int{2, 3, 4}}, {l, 2, []int{1}}, {l, 3, []int{1}}, {l, 4, []int{1}},
		{l, 0, nil}, {l, 5, nil}, {l, -1, nil}, {l, 20, nil}, {l, 21, nil}, {l, math.MinInt, nil}, {l, math.MaxInt, nil},
		{nil, 1, nil}, {nil, 0, nil}, {[]impl.Path{}, 1, nil}, {l[:1], 1, nil}, {walks(1, 12), 7, nil},
		{[]impl.Path{bus(2, 1, 3), walk(9, 1), car(14, 0, 2), walk(20, 2)}, 14, []int{2, 20}},
	}
	for _, c := range cases {
		if got := impl.ConflictsOf(c.l, c.id); !slices.Equal(got, c.want) {
			t.Errorf("ConflictsOf(%v, %d) = %v; want %v", c.l, c.id, got, c.want)
		}
	}
	for _, l := range someCrossings(3, 300) {
		for id := -1; id <= 22; id++ {
			var want []int
			for _, p := range l {
				for _, q := range l {
					if p.Id == id && collide(p, q) {
						want = append(want, q.Id)
					}
				}
			}
			if got := impl.ConflictsOf(l, id); !slices.Equal(got, want) {
				t.Errorf("ConflictsOf(%v, %d) = %v; want %v", l, id, got, want)
			}
		}
	}
}

// areTogether is the oracle for IsTogether of a list of paths for which ArePaths holds.
func areTogether(l []impl.Path, ids []int) bool {
	var chosen []impl.Path
	for i, id := range ids {
		found := slices.IndexFunc(l, func(p impl.Path) bool { return p.Id == id })
		if found < 0 || i > 0 && ids[i-1] >= id {
			return false
		}
		for _, p := range chosen {
			if collide(p, l[found]) {
				return false
			}
		}
		chosen = append(chosen, l[found])
	}
	return true
}

// subsetsOf returns all lists that have some of the Ids of l, in order.
func subsetsOf(l []impl.Path) [][]int {
	subsets := [][]int{{}}
	for _, p := range l {
		for _, ids := range subsets {
			subsets = append(subsets, append(slices.Clone(ids), p.Id))
		}
	}
	return subsets
}

// oddIds are lists of Ids that are not those of a stage, whatever conflicts, of any list that has no Id above 20.
func oddIds() [][]int {
	return [][]int{
		{0}, {-1}, {21}, {math.MinInt}, {math.MaxInt}, {1, 1}, {2, 2}, {3, 2}, {4, 3, 2}, {2, 4, 3}, {2, 3, 3}, {3, 3, 4}, {2, 3, 4, 2}, {0, 2}, {-2, 3}, {2, 21}, {2, 3, 4, 21},
		{2, 1 << 32}, {2, 1<<32 + 3}, {2, 256 + 3}, make([]int, 1000),
	}
}

func TestIsTogether(t *testing.T) {
	l := cross()
	cases := []struct {
		ids  []int
		want bool
	}{
		{nil, true}, {[]int{}, true}, {[]int{1}, true}, {[]int{4}, true}, {[]int{2, 3}, true}, {[]int{2, 4}, true}, {[]int{2, 3, 4}, true},
		{[]int{1, 2}, false}, {[]int{1, 3}, false}, {[]int{1, 4}, false}, {[]int{1, 2, 3, 4}, false},
		{[]int{5}, false}, {[]int{2, 5}, false}, {[]int{9}, false}, {[]int{2, 3, 9}, false},
	}
	for _, c := range cases {
		if got := impl.IsTogether(l, c.ids); got != c.want {
			t.Errorf("IsTogether(%v, %v) = %v", l, c.ids, got)
		}
	}
	for _, ids := range oddIds() {
		if impl.IsTogether(l, ids) || impl.IsTogether(walks(1, 12), ids) || impl.IsTogether(nil, ids) {
			t.Errorf("IsTogether of %v is true", ids)
		}
	}
	if !impl.IsTogether(nil, nil) || !impl.IsTogether([]impl.Path{}, []int{}) || impl.IsTogether(nil, []int{1}) {
		t.Error("IsTogether without paths")
	}
}

func TestIsTogetherOfAllSubsets(t *testing.T) {
	for _, l := range someCrossings(4, 60) {
		for _, ids := range subsetsOf(l) {
			if got := impl.IsTogether(l, ids); got != areTogether(l, ids) {
				t.Errorf("IsTogether(%v, %v) = %v", l, ids, got)
			}
			back := slices.Clone(ids)
			slices.Reverse(back)
			if got := impl.IsTogether(l, back); got != areTogether(l, back) {
				t.Errorf("IsTogether(%v, %v) = %v", l, back, got)
			}
		}
	}
}

func TestCountConflicts(t *testing.T) {
	cases := []struct {
		l    []impl.Path
		want int
	}{
		{nil, 0}, {[]impl.Path{}, 0}, {cross(), 3}, {cross()[:1], 0}, {cross()[:2], 1}, {walks(1, 12), 0},
		// Of these each two conflict.
		{[]impl.Path{car(1, 0, 2), car(2, 1, 2), bus(3, 3, 2), walk(4, 2)}, 6},
	}
	for _, c := range cases {
		if got := impl.CountConflicts(c.l); got != c.want {
			t.Errorf("CountConflicts(%v) = %d; want %d", c.l, got, c.want)
		}
	}
	for _, l := range someCrossings(5, 500) {
		want := 0
		for i, a := range l {
			for _, b := range l[:i] {
				if collide(a, b) {
					want++
				}
			}
		}
		if got := impl.CountConflicts(l); got != want {
			t.Errorf("CountConflicts(%v) = %d; want %d", l, got, want)
		}
	}
}

func TestFindPath(t *testing.T) {
	l := cross()
	again := []impl.Path{l[3], l[1], car(2, 0, 1), l[3], {}, {}, {Id: -7}, {Id: math.MaxInt}, {Id: math.MinInt}}
	cases := []struct {
		l    []impl.Path
		id   int
		want int
	}{
		{l, 1, 0}, {l, 2, 1}, {l, 3, 2}, {l, 4, 3}, {l, 0, -1}, {l, 5, -1}, {l, 9, -1}, {l, -1, -1}, {l, math.MinInt, -1}, {l, math.MaxInt, -1},
		{nil, 0, -1}, {nil, 1, -1}, {[]impl.Path{}, 0, -1}, {walks(9, 12), 20, 11}, {walks(1, 20), 20, 19}, {walks(1, 21), 21, 20},
		// Any list is searched, and the first of several is found, valid or not.
		{again, 4, 0}, {again, 2, 1}, {again, 0, 4}, {again, -7, 6}, {again, math.MaxInt, 7}, {again, math.MinInt, 8}, {again, 1, -1}, {again, 7, -1},
	}
	for _, c := range cases {
		if got := impl.FindPath(c.l, c.id); got != c.want {
			t.Errorf("FindPath(%v, %d) = %d; want %d", c.l, c.id, got, c.want)
		}
	}
}

// Where ArePaths is false nothing conflicts and nothing is together, not even for an Id that several paths have.
func TestConflictsOfNoCrossing(t *testing.T) {
	for _, l := range notCrossings() {
		if impl.CountConflicts(l) != 0 || impl.IsTogether(l, nil) || impl.IsTogether(l, []int{}) {
			t.Errorf("%v: CountConflicts %d, IsTogether of nothing %v", l, impl.CountConflicts(l), impl.IsTogether(l, nil))
		}
		for id := -1; id <= 22; id++ {
			if len(impl.ConflictsOf(l, id)) != 0 || impl.IsTogether(l, []int{id}) {
				t.Errorf("%v: ConflictsOf %d is %v, IsTogether %v", l, id, impl.ConflictsOf(l, id), impl.IsTogether(l, []int{id}))
			}
		}
	}
}

// Neither a list nor its spare capacity is changed, and what is returned is new.
func TestConflictsLeaveTheirArguments(t *testing.T) {
	for _, plain := range append(someCrossings(6, 40), notCrossings()...) {
		l, whole := roomy(plain, car(5, 0, 1), car(6, 1, 0))
		ids, wholeIds := roomy([]int{2, 3}, 4, 1, 77)
		paths, numbers := slices.Clone(whole), slices.Clone(wholeIds)
		impl.ArePaths(l)
		impl.CountConflicts(l)
		impl.IsTogether(l, ids)
		for id := -1; id <= 21; id++ {
			impl.FindPath(l, id)
			first, second := impl.ConflictsOf(l, id), impl.ConflictsOf(l, id)
			want := slices.Clone(second)
			first = first[:cap(first)]
			for i := range first {
				first[i] = -1
			}
			if third := impl.ConflictsOf(l, id); !slices.Equal(second, want) || !slices.Equal(third, want) {
				t.Errorf("ConflictsOf(%v, %d): a write to a result changes %v to %v and the next one to %v", l, id, want, second, third)
			}
		}
		if !slices.Equal(whole, paths) || !slices.Equal(wholeIds, numbers) {
			t.Errorf("changed: %v to %v, or %v to %v", paths, whole, numbers, wholeIds)
		}
	}
}
