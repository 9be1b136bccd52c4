package tests

import (
	"math"
	"math/rand"
	"slices"
	"testing"

	"loop.example/g03006/impl"
)

// newTown is the oracle for NewTown of a list of paths that is not empty and for which ArePaths holds.
func newTown(l []impl.Path) impl.Town {
	x := opened(0, cover(l)[0]...)
	return impl.Town{Paths: l, Control: x, Power: true, Record: sealedUp(shown(0, lightsOf(l, x)...))}
}

// isTown is the oracle for IsTown.
func isTown(o impl.Town) bool {
	if !impl.ArePaths(o.Paths) || !isControl(o.Paths, o.Control) || !areWants(o.Paths, o.Wants) || !isPrio(o.Paths, o.Prio) || !areLamps(lit{o.Paths, o.Lamps}) || !isRecord(o.Record) || len(o.Record) == 0 {
		return false
	}
	for _, e := range o.Record {
		if e.Second > o.Now || !areSafe(o.Paths, e.Lights) {
			return false
		}
	}
	return o.Books >= 0 && o.Books <= 1000 && o.Now >= 0 && o.Now <= 1000000
}

// modeOf is the oracle for ModeOf, and lightsNow that for LightsNow of a town.
func modeOf(o impl.Town) int { return modeFor(lit{o.Paths, o.Lamps}, o.Power) }

func lightsNow(o impl.Town) []int {
	if modeOf(o) != 0 {
		return make([]int, len(o.Paths))
	}
	return lightsOf(o.Paths, o.Control)
}

// sameTown is the oracle for EqualTowns.
func sameTown(a impl.Town, b impl.Town) bool {
	return slices.Equal(a.Paths, b.Paths) && sameControl(a.Control, b.Control) && slices.Equal(a.Wants, b.Wants) && a.Prio == b.Prio && slices.Equal(a.Lamps, b.Lamps) && a.Power == b.Power && sameEntries(a.Record, b.Record) && a.Books == b.Books && a.Now == b.Now
}

// copyTown returns the town in other memory.
func copyTown(o impl.Town) impl.Town {
	o.Paths, o.Wants, o.Lamps, o.Record = slices.Clone(o.Paths), slices.Clone(o.Wants), slices.Clone(o.Lamps), copyRecord(o.Record)
	o.Control.Stage, o.Control.Next = slices.Clone(o.Control.Stage), slices.Clone(o.Control.Next)
	return o
}

// withTown returns a copy of a town that was changed.
func withTown(o impl.Town, change func(o *impl.Town)) impl.Town {
	o = copyTown(o)
	change(&o)
	return o
}

// safeRecord draws a record of so many entries of what controllers can show, the last one at a second or before it.
func safeRecord(source *rand.Rand, l []impl.Path, entries int, until int) []impl.Entry {
	var list []impl.Entry
	second := max(0, until-source.Intn(3)*source.Intn(9)-3*entries)
	for range entries {
		lights := make([]int, len(l))
		if source.Intn(5) > 0 {
			lights = lightsOf(l, drawControl(source, l))
		}
		if second <= until {
			list = append(list, shown(second, lights...))
		}
		second += 1 + source.Intn(3)
	}
	return sealedUp(list...)
}

// drawTown draws a town of a list of paths that is not empty.
func drawTown(source *rand.Rand, l []impl.Path) impl.Town {
	o := impl.Town{Paths: l, Control: drawControl(source, l), Wants: drawWants(source, l), Power: source.Intn(5) > 0}
	o.Now = []int{0, 1, 59, 500, 999000, 999999, 1000000, source.Intn(100000)}[source.Intn(8)]
	o.Books = []int{0, 0, 7, 999, 1000}[source.Intn(5)]
	o.Record = safeRecord(source, l, []int{1, 2, 59, 60, 1 + source.Intn(60)}[source.Intn(5)], o.Now)
	for _, p := range l {
		if p.Kind == impl.PtBus && source.Intn(2) == 0 {
			o.Prio = prio(p.Id, 1+source.Intn(20))
		}
		for colour := range 2 * source.Intn(2) {
			o.Lamps = append(o.Lamps, impl.Lamp{Path: p.Id, Colour: colour, Broken: source.Intn(15) == 0})
		}
	}
	return o
}

// knownTowns are towns that the tests know: at the beginning, with wants, without power, with broken lamps, with a full record.
func knownTowns() []impl.Town {
	o := newTown(cross())
	late := withTown(o, func(o *impl.Town) {
		o.Now, o.Control, o.Wants, o.Prio = 9, opened(1, 2, 3, 4), []impl.Want{want(1, 3)}, prio(4, 12)
		o.Record = sealedUp(shown(0, 1, 0, 0, 0), shown(6, 2, 0, 0, 0), shown(8, 0, 1, 1, 1))
	})
	list := []impl.Town{o, late, newTown(cross()[:1]), newTown(walks(9, 12)), newTown(rich()), newTown(keeps()), newTown(rivals())}
	for _, change := range []func(o *impl.Town){
		func(o *impl.Town) { o.Power = false },
		func(o *impl.Town) { o.Lamps = []impl.Lamp{brokenLamp(2, 0)} },
		func(o *impl.Town) { o.Lamps = []impl.Lamp{lamp(1, 0), brokenLamp(1, 1), brokenLamp(3, 1)} },
		func(o *impl.Town) { o.Lamps = []impl.Lamp{brokenLamp(1, 1), brokenLamp(1, 0), lamp(2, 1)} },
		func(o *impl.Town) { o.Lamps, o.Power = []impl.Lamp{brokenLamp(2, 0)}, false },
		func(o *impl.Town) {
			o.Control, o.Now = closing([]int{2, 3, 4}, 60, []int{1}, 5), o.Now+7
		},
		func(o *impl.Town) { o.Books, o.Now = 1000, 1000000 },
		func(o *impl.Town) { o.Wants = []impl.Want{want(2, 100000), want(4, 0)} },
	} {
		list = append(list, withTown(o, change), withTown(late, change))
	}
	return list
}

// someTowns are towns of crossings of all lengths but 0.
func someTowns(seed int64, count int) []impl.Town {
	source := rand.New(rand.NewSource(seed))
	list := knownTowns()
	for _, l := range stagedCrossings(seed, count) {
		if len(l) > 0 {
			list = append(list, drawTown(source, l))
		}
	}
	return list
}

// notTowns are towns that are not valid, most of them for one thing only.
func notTowns() []impl.Town {
	list := []impl.Town{{}, {Power: true}, {Paths: cross()}, {Paths: cross(), Power: true, Control: opened(0, 1)}}
	for _, o := range knownTowns()[:2] {
		with := func(change func(o *impl.Town)) { list = append(list, withTown(o, change)) }
		for _, n := range []int{-1, 1001, math.MinInt, math.MaxInt, 1 << 32} {
			with(func(o *impl.Town) { o.Books = n })
		}
		for _, n := range []int{-1, 1000001, math.MinInt, math.MaxInt, 1<<32 + 9} {
			with(func(o *impl.Town) { o.Now = n })
		}
		for _, x := range []impl.Control{{}, opened(-1, 1), opened(1000001, 1), opened(5), opened(5, 1, 2), opened(5, 9), closing([]int{1}, 5, []int{2}, 3), closing([]int{1}, 5, []int{2}, 0), {Stage: []int{1}, Left: 1}} {
			with(func(o *impl.Town) { o.Control = x })
		}
		for _, w := range badWants() {
			with(func(o *impl.Town) { o.Wants = w })
		}
		for _, r := range badPrios() {
			with(func(o *impl.Town) { o.Prio = r })
		}
		for _, x := range [][]impl.Lamp{{lamp(9, 0)}, {lamp(0, 1)}, {lamp(1, 2)}, {lamp(1, -1)}, {lamp(1, 0), lamp(1, 0)}, {lamp(1, 0), lamp(2, 0), brokenLamp(1, 0)}, {brokenLamp(math.MinInt, math.MaxInt)}} {
			with(func(o *impl.Town) { o.Lamps = x })
		}
		for _, r := range [][]impl.Entry{
			nil, {}, {shown(0, 1, 0, 0, 0)}, sealedUp(shown(0, 1, 0, 0)), sealedUp(shown(0, 1, 0, 0, 0, 0)), sealedUp(shown(0)), sealedUp(shown(0, 1, 1, 0, 0)), sealedUp(shown(0, 3, 0, 0, 0)), sealedUp(shown(-1, 1, 0, 0, 0)),
			// An entry later than Now; one that is not safe behind one that is; one with a light too few behind one with none too few.
			sealedUp(shown(0, 1, 0, 0, 0), shown(o.Now+1, 0, 0, 0, 0)), sealedUp(shown(o.Now+1, 0, 0, 0, 0)), sealedUp(shown(1000000, 0, 0, 0, 0)),
		} {
			with(func(o *impl.Town) { o.Record = r })
		}
		with(func(o *impl.Town) {
			o.Now, o.Record = 9, sealedUp(shown(0, 1, 0, 0, 0), shown(3, 1, 0, 2, 0), shown(5, 0, 0, 0, 0))
		})
		with(func(o *impl.Town) { o.Now, o.Record = 9, sealedUp(shown(0, 1, 0, 0, 0), shown(3, 0, 0, 0)) })
		with(func(o *impl.Town) { o.Now, o.Record = 9, sealedUp(shown(3, 1, 0, 0, 0), shown(3, 0, 0, 0, 0)) })
		with(func(o *impl.Town) { o.Record[0].Seal++ })
		with(func(o *impl.Town) {
			o.Now, o.Record = 60, nil
			for i := range 61 {
				o.Record = sealedUp(append(o.Record, shown(i, i%2, 0, 0, 0))...)
			}
		})
		with(func(o *impl.Town) { o.Paths = nil })
		with(func(o *impl.Town) { o.Paths = o.Paths[:3] })
		with(func(o *impl.Town) { o.Paths = append(o.Paths, car(5, 0, 1)) })
		with(func(o *impl.Town) { o.Paths[0], o.Paths[1] = o.Paths[1], o.Paths[0] })
		with(func(o *impl.Town) { o.Paths[3].From = 1 })
		// What is closed now was open when it did not conflict with this.
		with(func(o *impl.Town) {
			o.Paths[0], o.Control, o.Record = walk(1, 1), opened(3, 2), sealedUp(shown(0, 1, 1, 0, 0))
		})
	}
	list = append(list, withTown(newTown(cross()[:1]), func(o *impl.Town) { o.Paths = walks(1, 13) }))
	for _, l := range notCrossings() {
		list = append(list, impl.Town{Paths: l, Power: true, Control: opened(0, l[0].Id), Record: sealedUp(shown(0, make([]int, min(len(l), 12))...))})
	}
	return list
}

func TestNewTown(t *testing.T) {
	o, ok := impl.NewTown(cross())
	want := impl.Town{Paths: cross(), Control: opened(0, 1), Power: true, Record: sealedUp(shown(0, 1, 0, 0, 0))}
	if !ok || !sameTown(o, want) {
		t.Errorf("NewTown of cross is %v, %v", o, ok)
	}
	for _, l := range stagedCrossings(328, 200) {
		want := impl.Town{}
		if len(l) > 0 {
			want = newTown(l)
		}
		if got, ok := impl.NewTown(l); ok != (len(l) > 0) || !sameTown(got, want) || impl.IsTown(got) != ok {
			t.Errorf("NewTown(%v) = %v, %v; want %v", l, got, ok, want)
		}
	}
	for _, l := range notCrossings() {
		if got, ok := impl.NewTown(l); ok || !sameTown(got, impl.Town{}) {
			t.Errorf("NewTown(%v) = %v, %v", l, got, ok)
		}
	}
}

func TestIsTown(t *testing.T) {
	for _, o := range someTowns(329, 200) {
		if !impl.IsTown(o) || !isTown(o) {
			t.Errorf("IsTown(%v) is %v; want %v", o, impl.IsTown(o), isTown(o))
		}
	}
	for _, o := range notTowns() {
		if impl.IsTown(o) || isTown(o) {
			t.Errorf("IsTown(%v) is true", o)
		}
	}
	o := newTown(cross())
	for _, n := range append(around(0, 60), 999, 1000, 1001, 999999, 1000000, 1000001) {
		for _, changed := range []impl.Town{
			withTown(o, func(o *impl.Town) { o.Books = n }), withTown(o, func(o *impl.Town) { o.Now = n }), withTown(o, func(o *impl.Town) { o.Control.Since = n }), withTown(o, func(o *impl.Town) { o.Control.Left = n }), withTown(o, func(o *impl.Town) { o.Prio = prio(4, n) }), withTown(o, func(o *impl.Town) { o.Wants = []impl.Want{want(2, n)} }),
			withTown(o, func(o *impl.Town) { o.Now, o.Record = 40, sealedUp(shown(n, 1, 0, 0, 0)) }), withTown(o, func(o *impl.Town) { o.Record = sealedUp(shown(0, n, 0, 0, 0)) }),
		} {
			if got := impl.IsTown(changed); got != isTown(changed) {
				t.Errorf("IsTown(%v) = %v", changed, got)
			}
		}
	}
	source := rand.New(rand.NewSource(330))
	for _, o := range someTowns(331, 100) {
		for _, x := range brokenControls(steered{o.Paths, o.Control})[:40] {
			if changed := withTown(o, func(o *impl.Town) { o.Control = x }); impl.IsTown(changed) != isTown(changed) {
				t.Errorf("IsTown(%v) = %v", changed, impl.IsTown(changed))
			}
		}
		other := drawTown(source, rich())
		for _, change := range []func(o *impl.Town){func(o *impl.Town) { o.Paths = other.Paths }, func(o *impl.Town) { o.Wants = other.Wants }, func(o *impl.Town) { o.Prio = other.Prio }, func(o *impl.Town) { o.Lamps = other.Lamps }, func(o *impl.Town) { o.Record = other.Record }} {
			if changed := withTown(o, change); impl.IsTown(changed) != isTown(changed) {
				t.Errorf("IsTown(%v) = %v", changed, impl.IsTown(changed))
			}
		}
	}
}

func TestModesAndLightsOfTowns(t *testing.T) {
	o := newTown(cross())
	late := knownTowns()[1]
	cases := []struct {
		o            impl.Town
		mode         int
		lights, seen []int
	}{
		// Without lamps, with a broken red one, a broken green one, and both; without power.
		{o, 0, []int{1, 0, 0, 0}, []int{1, 0, 0, 0}}, {late, 0, []int{0, 1, 1, 1}, []int{0, 1, 1, 1}},
		{withTown(o, func(o *impl.Town) { o.Lamps = []impl.Lamp{brokenLamp(2, 0)} }), 1, []int{0, 0, 0, 0}, []int{-1, -1, -1, -1}}, {withTown(o, func(o *impl.Town) { o.Lamps = []impl.Lamp{brokenLamp(1, 1)} }), 0, []int{1, 0, 0, 0}, []int{-1, 0, 0, 0}}, {withTown(late, func(o *impl.Town) { o.Lamps = []impl.Lamp{brokenLamp(1, 1), brokenLamp(3, 1)} }), 0, []int{0, 1, 1, 1}, []int{0, 1, -1, 1}}, {withTown(o, func(o *impl.Town) { o.Lamps = []impl.Lamp{brokenLamp(1, 0), brokenLamp(1, 1)} }), 1, []int{0, 0, 0, 0}, []int{-1, -1, -1, -1}},
		{withTown(o, func(o *impl.Town) { o.Power = false }), 2, []int{0, 0, 0, 0}, []int{-1, -1, -1, -1}}, {withTown(o, func(o *impl.Town) { o.Power, o.Lamps = false, []impl.Lamp{brokenLamp(2, 0)} }), 2, []int{0, 0, 0, 0}, []int{-1, -1, -1, -1}},
		{withTown(o, func(o *impl.Town) {
			o.Control, o.Lamps = closing([]int{1}, 5, []int{2}, 2), []impl.Lamp{brokenLamp(1, 1)}
		}), 0, []int{2, 0, 0, 0}, []int{2, 0, 0, 0}},
		// Towns that are not valid: without paths, with a controller that is none in each mode, with lamps that are none.
		{impl.Town{}, 2, nil, nil}, {impl.Town{Power: true}, 0, nil, nil}, {impl.Town{Paths: cross()}, 2, []int{0, 0, 0, 0}, []int{-1, -1, -1, -1}}, {impl.Town{Paths: cross(), Power: true}, 0, nil, nil}, {impl.Town{Paths: cross(), Power: true, Control: opened(5, 1, 2)}, 0, nil, nil}, {impl.Town{Paths: cross(), Power: true, Control: opened(5, 1, 2), Lamps: []impl.Lamp{brokenLamp(1, 0)}}, 1, []int{0, 0, 0, 0}, []int{-1, -1, -1, -1}}, {impl.Town{Paths: cross(), Power: true, Control: opened(5, 1), Lamps: []impl.Lamp{lamp(9, 1)}}, 1, []int{0, 0, 0, 0}, []int{-1, -1, -1, -1}},
		{impl.Town{Paths: cross(), Power: true, Control: opened(5, 1), Now: -5, Books: -1}, 0, []int{1, 0, 0, 0}, []int{1, 0, 0, 0}}, {impl.Town{Paths: walks(1, 13), Power: true, Control: opened(5, 1)}, 1, make([]int, 13), slices.Repeat([]int{-1}, 13)}, {impl.Town{Paths: walks(1, 13), Control: opened(5, 1)}, 2, make([]int, 13), slices.Repeat([]int{-1}, 13)},
	}
	for _, c := range cases {
		if mode, lights, seen := impl.ModeOf(c.o), impl.LightsNow(c.o), impl.SeenNow(c.o); mode != c.mode || !slices.Equal(lights, c.lights) || !slices.Equal(seen, c.seen) {
			t.Errorf("%v: ModeOf %d, LightsNow %v, SeenNow %v; want %d, %v, %v", c.o, mode, lights, seen, c.mode, c.lights, c.seen)
		}
	}
	for _, o := range notTowns() {
		if mode := impl.ModeOf(o); mode != modeOf(o) {
			t.Errorf("ModeOf(%v) = %d", o, mode)
		}
		lights, seen := impl.LightsNow(o), impl.SeenNow(o)
		if modeOf(o) != 0 && (!slices.Equal(lights, make([]int, len(o.Paths))) || !slices.Equal(seen, slices.Repeat([]int{-1}, len(o.Paths)))) {
			t.Errorf("%v: LightsNow %v, SeenNow %v", o, lights, seen)
		}
		if modeOf(o) == 0 && isControl(o.Paths, o.Control) && !slices.Equal(lights, lightsNow(o)) || modeOf(o) == 0 && !isControl(o.Paths, o.Control) && (len(lights) != 0 || len(seen) != 0) {
			t.Errorf("%v: LightsNow %v, SeenNow %v", o, lights, seen)
		}
	}
}

// Promise 33: what is seen is what is shown, but for lamps that are broken, and where nothing works as planned nothing is seen; and
// what is shown is safe.
func TestWhatIsSeenIsWhatIsShown(t *testing.T) {
	modes, hidden := [3]int{}, 0
	for _, o := range someTowns(332, 400) {
		mode, lights, seen := impl.ModeOf(o), impl.LightsNow(o), impl.SeenNow(o)
		if mode != modeOf(o) || !slices.Equal(lights, lightsNow(o)) || len(seen) != len(o.Paths) || !impl.IsSafeLights(o.Paths, lights) {
			t.Fatalf("%v: ModeOf %d, LightsNow %v, SeenNow %v", o, mode, lights, seen)
		}
		modes[mode]++
		for i, light := range lights {
			broken := hasBrokenLamp(o.Lamps, o.Paths[i].Id, light) && light < 2
			switch {
			case mode != impl.MdFull && (seen[i] != -1 || light != impl.LtRed), mode == impl.MdFull && broken && (seen[i] != -1 || light == impl.LtRed), mode == impl.MdFull && !broken && seen[i] != light:
				t.Fatalf("%v: %d shows %d, and %d is seen", o, o.Paths[i].Id, light, seen[i])
			}
			if mode == impl.MdFull && broken {
				hidden++
			}
		}
	}
	if min(modes[0], modes[1], modes[2], hidden) < 15 {
		t.Error(modes, hidden)
	}
}

func TestEqualTowns(t *testing.T) {
	o := knownTowns()[1]
	o.Lamps = []impl.Lamp{brokenLamp(1, 1), lamp(2, 0)}
	changes := []func(o *impl.Town){
		func(o *impl.Town) {},
		func(o *impl.Town) { o.Paths[3].To = 0 }, func(o *impl.Town) { o.Paths[0].Id = 0 }, func(o *impl.Town) { o.Paths = o.Paths[:3] }, func(o *impl.Town) { o.Paths = append(o.Paths, car(5, 0, 1)) }, func(o *impl.Town) { o.Paths = nil },
		func(o *impl.Town) { o.Control.Stage[2] = 5 }, func(o *impl.Town) { o.Control.Stage = nil }, func(o *impl.Town) { o.Control.Since = 2 }, func(o *impl.Town) { o.Control.Next = []int{1} }, func(o *impl.Town) { o.Control.Left = 1 },
		func(o *impl.Town) { o.Wants = nil }, func(o *impl.Town) { o.Wants = append(o.Wants, want(2, 0)) }, func(o *impl.Town) { o.Wants[0].Wait = 4 }, func(o *impl.Town) { o.Wants[0].Path = 2 },
		func(o *impl.Town) { o.Prio = impl.Prio{} }, func(o *impl.Town) { o.Prio.Left = 13 }, func(o *impl.Town) { o.Prio.Path = 5 },
		func(o *impl.Town) { o.Lamps = nil }, func(o *impl.Town) { o.Lamps = o.Lamps[:1] }, func(o *impl.Town) { o.Lamps[1].Broken = true }, func(o *impl.Town) { o.Lamps[1].Colour = 1 }, func(o *impl.Town) { o.Lamps[1].Path = 3 }, func(o *impl.Town) { slices.Reverse(o.Lamps) },
		func(o *impl.Town) { o.Power = false },
		func(o *impl.Town) { o.Record = nil }, func(o *impl.Town) { o.Record = o.Record[:2] }, func(o *impl.Town) { o.Record = append(o.Record, impl.Entry{}) }, func(o *impl.Town) { o.Record[2].Second = 9 }, func(o *impl.Town) { o.Record[2].Seal++ }, func(o *impl.Town) { o.Record[2].Lights[3] = 2 }, func(o *impl.Town) { o.Record[2].Lights = o.Record[2].Lights[:3] }, func(o *impl.Town) { o.Record[0].Lights = nil },
		func(o *impl.Town) { o.Books = 1 }, func(o *impl.Town) { o.Books = math.MinInt }, func(o *impl.Town) { o.Now = 10 }, func(o *impl.Town) { o.Now = math.MaxInt },
	}
	for i, one := range changes {
		for j, other := range changes {
			a, b := withTown(o, one), withTown(o, other)
			if got := impl.EqualTowns(a, b); got != (i == j) || got != sameTown(a, b) {
				t.Errorf("EqualTowns(%v, %v) = %v", a, b, got)
			}
		}
	}
	empty := impl.Town{Paths: []impl.Path{}, Control: impl.Control{Stage: []int{}, Next: []int{}}, Wants: []impl.Want{}, Lamps: []impl.Lamp{}, Record: []impl.Entry{}}
	if !impl.EqualTowns(impl.Town{}, empty) || !impl.EqualTowns(empty, impl.Town{}) || !impl.EqualTowns(impl.Town{Record: []impl.Entry{{}}}, impl.Town{Record: []impl.Entry{{Lights: []int{}}}}) || impl.EqualTowns(impl.Town{Record: []impl.Entry{{}}}, impl.Town{}) {
		t.Error("nil and empty lists")
	}
	for _, o := range append(someTowns(333, 40), notTowns()...) {
		if !impl.EqualTowns(o, copyTown(o)) || impl.EqualTowns(o, withTown(o, func(o *impl.Town) { o.Power = !o.Power })) {
			t.Errorf("EqualTowns of %v and its copy", o)
		}
	}
}

// wantUntouchedTown calls visit with a town with all its lists in greater arrays, and checks that nothing in these is changed.
func wantUntouchedTown(t *testing.T, name string, o impl.Town, visit func(o impl.Town)) {
	t.Helper()
	wantUntouchedControl(t, name, steered{o.Paths, o.Control}, func(l []impl.Path, x impl.Control) {
		wantUntouchedList(t, name, o.Wants, want(7, 7), func(w []impl.Want) {
			wantUntouchedList(t, name, o.Lamps, brokenLamp(7, 7), func(lamps []impl.Lamp) {
				wantUntouchedRecord(t, name, o.Record, func(record []impl.Entry) {
					visit(impl.Town{Paths: l, Control: x, Wants: w, Prio: o.Prio, Lamps: lamps, Power: o.Power, Record: record, Books: o.Books, Now: o.Now})
				})
			})
		})
	})
}

// overwrite fills a list with what it can hardly have, its spare capacity included.
func overwrite[T any](list []T, over T) {
	for i := range list[:cap(list)] {
		list[:cap(list)][i] = over
	}
}

// wantOwnTown checks that a write to a list of a result changes neither its other lists nor another result.
func wantOwnTown(t *testing.T, name string, call func() impl.Town) {
	t.Helper()
	want, other := copyTown(call()), call()
	spoilers := []func(o *impl.Town){
		func(o *impl.Town) { overwrite(o.Paths, car(77, 7, 7)); o.Paths = want.Paths },
		func(o *impl.Town) { overwrite(o.Control.Stage, 77); o.Control.Stage = want.Control.Stage },
		func(o *impl.Town) { overwrite(o.Control.Next, 77); o.Control.Next = want.Control.Next },
		func(o *impl.Town) { overwrite(o.Wants, impl.Want{Path: 77}); o.Wants = want.Wants },
		func(o *impl.Town) { overwrite(o.Lamps, lamp(77, 7)); o.Lamps = want.Lamps },
		func(o *impl.Town) { overwrite(o.Record, shown(77, 7)); o.Record = want.Record },
	}
	for i := range want.Record {
		spoilers = append(spoilers, func(o *impl.Town) {
			overwrite(o.Record[i].Lights, 77)
			o.Record[i].Lights = want.Record[i].Lights
		})
	}
	for _, spoil := range spoilers {
		o := call()
		spoil(&o)
		if !sameTown(o, want) {
			t.Errorf("%s: a write to one list changes %v to %v", name, want, o)
		}
	}
	if !sameTown(other, want) || !sameTown(call(), want) {
		t.Errorf("%s: a write to a result changes %v to %v or %v", name, want, other, call())
	}
}

func TestTownsAreNewMemory(t *testing.T) {
	for _, l := range append(stagedCrossings(334, 30), notCrossings()...) {
		wantUntouchedList(t, "NewTown", l, car(5, 0, 1), func(l []impl.Path) {
			wantOwnTown(t, "NewTown", func() impl.Town { o, _ := impl.NewTown(l); return o })
		})
	}
	for _, o := range append(someTowns(335, 30), notTowns()...) {
		if len(o.Record) > 60 {
			continue
		}
		wantUntouchedTown(t, "a function of towns", o, func(o impl.Town) {
			impl.IsTown(o)
			impl.ModeOf(o)
			impl.EqualTowns(o, o)
			wantOwnList(t, "LightsNow", 7, func() []int { return impl.LightsNow(o) })
			wantOwnList(t, "SeenNow", 7, func() []int { return impl.SeenNow(o) })
		})
	}
}
