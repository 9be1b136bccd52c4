package tests

import (
	"math"
	"math/rand"
	"slices"
	"testing"

	"loop.example/g03006/impl"
)

func lamp(path int, colour int) impl.Lamp { return impl.Lamp{Path: path, Colour: colour} }

func brokenLamp(path int, colour int) impl.Lamp {
	return impl.Lamp{Path: path, Colour: colour, Broken: true}
}

// lit is a crossing with its lamps.
type lit struct {
	l []impl.Path
	x []impl.Lamp
}

// areLamps is the oracle for AreLamps.
func areLamps(c lit) bool {
	if !impl.ArePaths(c.l) {
		return false
	}
	for i, one := range c.x {
		if !hasPath(c.l, one.Path) || one.Colour != 0 && one.Colour != 1 {
			return false
		}
		for _, other := range c.x[i+1:] {
			if other.Path == one.Path && other.Colour == one.Colour {
				return false
			}
		}
	}
	return true
}

// hasBrokenLamp is the oracle for IsBroken.
func hasBrokenLamp(x []impl.Lamp, path int, colour int) bool {
	return slices.Contains(x, brokenLamp(path, colour))
}

// modeFor is the oracle for ModeFor.
func modeFor(c lit, power bool) int {
	red := false
	for _, one := range c.x {
		red = red || one.Broken && one.Colour == 0
	}
	switch {
	case !power:
		return 2
	case red || !areLamps(c):
		return 1
	}
	return 0
}

// visible is the oracle for Visible of as many lights as paths.
func visible(c lit, lights []int) []int {
	list := slices.Clone(lights)
	for i, p := range c.l {
		if light := lights[i]; light == 0 && hasBrokenLamp(c.x, p.Id, 0) || light == 1 && hasBrokenLamp(c.x, p.Id, 1) {
			list[i] = -1
		}
	}
	return list
}

// mended is the oracle for MendLamp.
func mended(x []impl.Lamp, path int, colour int) []impl.Lamp {
	var list []impl.Lamp
	for _, one := range x {
		if one == brokenLamp(path, colour) {
			one = lamp(path, colour)
		}
		list = append(list, one)
	}
	return list
}

// someLamps are crossings with lamps of their paths, none twice; some are broken.
func someLamps(seed int64, count int) []lit {
	source := rand.New(rand.NewSource(seed))
	list := []lit{{nil, nil}, {cross(), nil}}
	for _, l := range stagedCrossings(seed, count) {
		var x []impl.Lamp
		for _, p := range l {
			for colour := range 2 {
				if source.Intn(3) > 0 {
					x = append(x, impl.Lamp{Path: p.Id, Colour: colour, Broken: source.Intn(12) == 0})
				}
			}
		}
		source.Shuffle(len(x), func(i int, j int) { x[i], x[j] = x[j], x[i] })
		list = append(list, lit{l, x})
	}
	return list
}

// notLamps are crossings with lamps of which one is not valid, and lists that are no crossing.
func notLamps() []lit {
	var list []lit
	good := []impl.Lamp{lamp(1, 0), lamp(1, 1), lamp(4, 0)}
	bad := []impl.Lamp{lamp(1, 0), brokenLamp(1, 1), brokenLamp(4, 0), lamp(0, 0), lamp(5, 0), lamp(9, 1), brokenLamp(-1, 1), lamp(math.MinInt, 0), lamp(math.MaxInt, 1), lamp(1<<32+2, 0)}
	for _, colour := range []int{impl.LtClear, -1, 3, math.MinInt, math.MaxInt, 1 << 32, 1<<32 + 1} {
		bad = append(bad, lamp(2, colour), brokenLamp(3, colour))
	}
	for _, one := range bad {
		for i := range len(good) + 1 {
			list = append(list, lit{cross(), slices.Insert(slices.Clone(good), i, one)})
		}
	}
	list = append(list, lit{nil, good[:1]}, lit{cross()[1:], good})
	for _, l := range notCrossings() {
		list = append(list, lit{l, nil}, lit{l, []impl.Lamp{lamp(l[0].Id, 0)}}, lit{l, []impl.Lamp{brokenLamp(l[0].Id, 1)}})
	}
	return list
}

func TestLampLimits(t *testing.T) {
	if impl.MdFull != 0 || impl.MdBlink != 1 || impl.MdDark != 2 {
		t.Error(impl.MdFull, impl.MdBlink, impl.MdDark)
	}
}

func TestAreLamps(t *testing.T) {
	good := []lit{
		{nil, nil}, {cross(), nil}, {cross(), []impl.Lamp{lamp(1, 0), lamp(1, 1)}}, {cross(), []impl.Lamp{brokenLamp(4, 1), lamp(1, 1), brokenLamp(4, 0), lamp(3, 0), lamp(2, 1), lamp(2, 0), brokenLamp(3, 1), lamp(1, 0)}},
	}
	for _, c := range append(good, someLamps(188, 200)...) {
		if !impl.AreLamps(c.l, c.x) || !areLamps(c) {
			t.Errorf("AreLamps(%v, %v) is false", c.l, c.x)
		}
	}
	for _, c := range notLamps() {
		if impl.AreLamps(c.l, c.x) || areLamps(c) {
			t.Errorf("AreLamps(%v, %v) is true", c.l, c.x)
		}
	}
	for path := range 6 {
		for _, colour := range around(0, 1) {
			x := []impl.Lamp{lamp(path, colour)}
			if got, want := impl.AreLamps(cross(), x), path >= 1 && path <= 4 && (colour == 0 || colour == 1); got != want {
				t.Errorf("AreLamps(%v) = %v", x, got)
			}
		}
	}
}

func TestIsBroken(t *testing.T) {
	// Of a lamp that is there twice one or the other is broken; the lamps need not be valid.
	x := []impl.Lamp{lamp(1, 0), brokenLamp(1, 1), brokenLamp(2, 0), lamp(2, 0), lamp(3, 1), brokenLamp(3, 1), lamp(4, 0), lamp(4, 0), brokenLamp(-7, 5), brokenLamp(math.MinInt, math.MaxInt)}
	broken := [][2]int{{1, 1}, {2, 0}, {3, 1}, {-7, 5}, {math.MinInt, math.MaxInt}}
	for _, path := range append(around(0, 4), -7) {
		for _, colour := range append(around(0, 2), 5) {
			if got, want := impl.IsBroken(x, path, colour), slices.Contains(broken, [2]int{path, colour}); got != want {
				t.Errorf("IsBroken(%v, %d, %d) = %v", x, path, colour, got)
			}
			if impl.IsBroken(nil, path, colour) {
				t.Errorf("without lamps that of %d, %d is broken", path, colour)
			}
		}
	}
	for _, c := range append(someLamps(189, 100), notLamps()...) {
		for path := range 21 {
			for colour := -1; colour <= 3; colour++ {
				if got, want := impl.IsBroken(c.x, path, colour), hasBrokenLamp(c.x, path, colour); got != want {
					t.Errorf("IsBroken(%v, %d, %d) = %v", c.x, path, colour, got)
				}
			}
		}
	}
}

func TestModeFor(t *testing.T) {
	l := cross()
	cases := []struct {
		c     lit
		power bool
		want  int
	}{
		{lit{l, nil}, true, 0}, {lit{l, nil}, false, 2}, {lit{nil, nil}, true, 0}, {lit{nil, nil}, false, 2},
		{lit{l, []impl.Lamp{lamp(1, 0), lamp(1, 1)}}, true, 0}, {lit{l, []impl.Lamp{lamp(1, 0), brokenLamp(1, 1)}}, true, 0}, {lit{l, []impl.Lamp{brokenLamp(1, 0), lamp(1, 1)}}, true, 1}, {lit{l, []impl.Lamp{brokenLamp(1, 0), brokenLamp(1, 1)}}, true, 1}, {lit{l, []impl.Lamp{lamp(1, 0), lamp(2, 0), brokenLamp(3, 0)}}, true, 1},
		// Without power nothing else matters.
		{lit{l, []impl.Lamp{brokenLamp(1, 0)}}, false, 2}, {lit{l, []impl.Lamp{brokenLamp(1, 1)}}, false, 2}, {lit{l, []impl.Lamp{lamp(9, 0)}}, false, 2}, {lit{[]impl.Path{l[1], l[0]}, nil}, false, 2},
		// Lamps and paths that are not valid.
		{lit{l, []impl.Lamp{lamp(9, 0)}}, true, 1}, {lit{l, []impl.Lamp{lamp(1, 1), lamp(1, 1)}}, true, 1}, {lit{l, []impl.Lamp{lamp(1, 2)}}, true, 1}, {lit{l, []impl.Lamp{lamp(1, -1)}}, true, 1}, {lit{[]impl.Path{l[1], l[0]}, nil}, true, 1}, {lit{nil, []impl.Lamp{lamp(1, 0)}}, true, 1},
	}
	for _, c := range cases {
		if got := impl.ModeFor(c.c.l, c.c.x, c.power); got != c.want || got != modeFor(c.c, c.power) {
			t.Errorf("ModeFor(%v, %v, %v) = %d; want %d, or %d", c.c.l, c.c.x, c.power, got, c.want, modeFor(c.c, c.power))
		}
	}
	for _, c := range append(someLamps(190, 200), notLamps()...) {
		for _, power := range []bool{true, false} {
			if got, want := impl.ModeFor(c.l, c.x, power), modeFor(c, power); got != want {
				t.Errorf("ModeFor(%v, %v, %v) = %d; want %d", c.l, c.x, power, got, want)
			}
		}
	}
}

// Promise 19: a broken red lamp makes all blink, whichever it is, and no other one does; a red lamp that is broken is never
// taken for a light that is shown, and when all are mended all works as planned.
func TestABrokenRedLampMakesAllBlink(t *testing.T) {
	source := rand.New(rand.NewSource(191))
	for _, c := range someLamps(192, 100) {
		x := slices.Clone(c.x)
		for _, one := range c.x {
			if one.Broken {
				x = impl.MendLamp(x, one.Path, one.Colour)
			}
		}
		if impl.ModeFor(c.l, x, true) != impl.MdFull {
			t.Fatalf("ModeFor(%v, %v) is not full", c.l, x)
		}
		red := false
		for _, i := range source.Perm(len(x)) {
			x[i].Broken = true
			red = red || x[i].Colour == impl.LtRed
			want := impl.MdFull
			if red {
				want = impl.MdBlink
			}
			if got := impl.ModeFor(c.l, x, true); got != want || impl.ModeFor(c.l, x, false) != impl.MdDark {
				t.Fatalf("ModeFor(%v, %v) = %d; want %d", c.l, x, got, want)
			}
			if !impl.IsBroken(x, x[i].Path, x[i].Colour) {
				t.Fatalf("IsBroken(%v, %d, %d) is false", x, x[i].Path, x[i].Colour)
			}
			for j, seen := range impl.Visible(c.l, x, make([]int, len(c.l))) {
				if hidden := impl.IsBroken(x, c.l[j].Id, impl.LtRed); (seen == -1) != hidden {
					t.Fatalf("of %v with %v, all red, %d shows %d", c.l, x, c.l[j].Id, seen)
				}
			}
		}
	}
}

func TestVisible(t *testing.T) {
	l := cross()
	all := []impl.Lamp{brokenLamp(1, 0), brokenLamp(1, 1), brokenLamp(2, 0), lamp(2, 1), lamp(3, 0), brokenLamp(3, 1), lamp(4, 0), lamp(4, 1)}
	cases := []struct {
		c            lit
		lights, want []int
	}{
		{lit{l, all}, []int{0, 0, 0, 0}, []int{-1, -1, 0, 0}}, {lit{l, all}, []int{1, 1, 1, 1}, []int{-1, 1, -1, 1}}, {lit{l, all}, []int{2, 2, 2, 2}, []int{2, 2, 2, 2}}, {lit{l, all}, []int{1, 0, 1, 0}, []int{-1, -1, -1, 0}},
		// Numbers that are no light; broken lamps of colours that are none hide nothing.
		{lit{l, all}, []int{-1, 3, math.MinInt, math.MaxInt}, []int{-1, 3, math.MinInt, math.MaxInt}}, {lit{l, []impl.Lamp{brokenLamp(1, 2), brokenLamp(2, 3), brokenLamp(3, -2), brokenLamp(4, math.MaxInt)}}, []int{2, 3, -2, math.MaxInt}, []int{2, 3, -2, math.MaxInt}},
		{lit{l, nil}, []int{0, 1, 2, 3}, []int{0, 1, 2, 3}},
		// As many lights as paths, one too few and one too many.
		{lit{l, all}, []int{0, 0, 0}, nil}, {lit{l, all}, []int{0, 0, 0, 0, 0}, nil}, {lit{l, all}, nil, nil}, {lit{nil, all}, []int{0}, nil}, {lit{nil, nil}, nil, nil}, {lit{nil, all}, []int{}, nil},
		// A lamp that is there twice, broken first or second.
		{lit{l, []impl.Lamp{brokenLamp(1, 0), lamp(1, 0), lamp(2, 1), brokenLamp(2, 1)}}, []int{0, 1, 0, 1}, []int{-1, -1, 0, 1}},
		// Lamps of no path, and paths for which ArePaths is false.
		{lit{l, []impl.Lamp{brokenLamp(9, 0), brokenLamp(0, 1)}}, []int{0, 1, 0, 1}, []int{0, 1, 0, 1}}, {lit{[]impl.Path{l[1], l[0], l[1]}, []impl.Lamp{brokenLamp(2, 1)}}, []int{1, 1, 1}, []int{-1, 1, -1}}, {lit{[]impl.Path{{Id: -5}, {Id: 77}}, []impl.Lamp{brokenLamp(-5, 0), brokenLamp(77, 0)}}, []int{0, 1}, []int{-1, 1}},
	}
	for _, c := range cases {
		if got := impl.Visible(c.c.l, c.c.x, c.lights); !slices.Equal(got, c.want) {
			t.Errorf("Visible(%v, %v, %v) = %v; want %v", c.c.l, c.c.x, c.lights, got, c.want)
		}
	}
	source := rand.New(rand.NewSource(193))
	for _, c := range append(someLamps(194, 200), notLamps()...) {
		for range 5 {
			lights := make([]int, len(c.l))
			for i := range lights {
				lights[i] = []int{0, 0, 1, 1, 2, 3, -1, -2}[source.Intn(8)]
			}
			if got, want := impl.Visible(c.l, c.x, lights), visible(c, lights); !slices.Equal(got, want) {
				t.Errorf("Visible(%v, %v, %v) = %v; want %v", c.l, c.x, lights, got, want)
			}
			if got := impl.Visible(c.l, c.x, append(lights, 0)); len(got) != 0 {
				t.Errorf("Visible(%v, %v, %v) = %v", c.l, c.x, append(lights, 0), got)
			}
			if len(lights) > 0 && len(impl.Visible(c.l, c.x, lights[1:])) != 0 {
				t.Errorf("Visible(%v, %v, %v) = %v", c.l, c.x, lights[1:], impl.Visible(c.l, c.x, lights[1:]))
			}
		}
	}
}

func TestModeName(t *testing.T) {
	for _, mode := range around(0, 2) {
		want := map[int]string{0: "full", 1: "blink", 2: "dark"}[mode]
		if got := impl.ModeName(mode); got != want {
			t.Errorf("ModeName(%d) = %q; want %q", mode, got, want)
		}
	}
}

func TestMendLamp(t *testing.T) {
	x := []impl.Lamp{brokenLamp(1, 0), brokenLamp(1, 1), brokenLamp(2, 0), lamp(2, 0), brokenLamp(2, 0), lamp(3, 1), brokenLamp(-1, 7)}
	cases := []struct {
		path, colour int
		want         []impl.Lamp
	}{
		// Once, twice with one between that is not broken, not broken at all, of no path, and not there.
		{1, 0, []impl.Lamp{lamp(1, 0), x[1], x[2], x[3], x[4], x[5], x[6]}}, {1, 1, []impl.Lamp{x[0], lamp(1, 1), x[2], x[3], x[4], x[5], x[6]}}, {2, 0, []impl.Lamp{x[0], x[1], lamp(2, 0), x[3], lamp(2, 0), x[5], x[6]}}, {3, 1, x}, {-1, 7, []impl.Lamp{x[0], x[1], x[2], x[3], x[4], x[5], lamp(-1, 7)}},
		{2, 1, x}, {3, 0, x}, {0, 1, x}, {9, 0, x}, {1, 2, x}, {1, -1, x}, {math.MinInt, math.MaxInt, x}, {1<<32 + 1, 0, x}, {1, 1 << 32, x},
	}
	for _, c := range cases {
		if got := impl.MendLamp(x, c.path, c.colour); !slices.Equal(got, c.want) {
			t.Errorf("MendLamp(%v, %d, %d) = %v; want %v", x, c.path, c.colour, got, c.want)
		}
		if len(impl.MendLamp(nil, c.path, c.colour)) != 0 {
			t.Errorf("MendLamp of no lamps and %d, %d", c.path, c.colour)
		}
	}
	for _, c := range append(someLamps(195, 100), notLamps()...) {
		for path := range 21 {
			for colour := -1; colour <= 3; colour++ {
				got := impl.MendLamp(c.x, path, colour)
				if !slices.Equal(got, mended(c.x, path, colour)) || impl.IsBroken(got, path, colour) || impl.AreLamps(c.l, got) != impl.AreLamps(c.l, c.x) {
					t.Errorf("MendLamp(%v, %d, %d) = %v", c.x, path, colour, got)
				}
			}
		}
	}
}

// wantOwnList checks that a result that is overwritten, with all its spare capacity, changes no other one.
func wantOwnList[T comparable](t *testing.T, name string, over T, call func() []T) {
	t.Helper()
	first, second := call(), call()
	want := slices.Clone(second)
	first = first[:cap(first)]
	for i := range first {
		first[i] = over
	}
	if third := call(); !slices.Equal(second, want) || !slices.Equal(third, want) {
		t.Errorf("%s: a write to a result changes %v to %v, and the next one to %v", name, want, second, third)
	}
}

// wantUntouchedList calls visit with a list in a greater array, and checks that nothing in this is changed.
func wantUntouchedList[T comparable](t *testing.T, name string, list []T, behind T, visit func(list []T)) {
	t.Helper()
	given, whole := roomy(list, behind, behind)
	want := slices.Clone(whole)
	visit(given)
	if !slices.Equal(whole, want) {
		t.Errorf("%s changes %v to %v", name, want, whole)
	}
}

func TestLampsAreNewMemory(t *testing.T) {
	for _, c := range append(someLamps(196, 60), notLamps()...) {
		lights := make([]int, len(c.l))
		wantUntouchedList(t, "a function of lamps", c.x, brokenLamp(1, 0), func(x []impl.Lamp) {
			wantUntouchedList(t, "a function of lamps", c.l, car(5, 0, 1), func(l []impl.Path) {
				wantUntouchedList(t, "Visible", lights, 7, func(lights []int) {
					impl.AreLamps(l, x)
					impl.IsBroken(x, 1, 0)
					impl.ModeFor(l, x, true)
					wantOwnList(t, "MendLamp", lamp(77, 7), func() []impl.Lamp { return impl.MendLamp(x, 1, 0) })
					wantOwnList(t, "Visible", 7, func() []int { return impl.Visible(l, x, lights) })
				})
				// A copy is a result, too, where nothing is hidden and nothing is mended.
				spoil(impl.Visible(l, nil, lights))
				wantOwnList(t, "MendLamp", lamp(77, 7), func() []impl.Lamp { return impl.MendLamp(x, 99, 99) })
			})
		})
		if slices.Max(append(lights, 0)) != 0 || slices.Min(append(lights, 0)) != 0 {
			t.Errorf("Visible(%v, nil) shares its lights: %v", c.l, lights)
		}
	}
}
