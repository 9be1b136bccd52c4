package tests

import (
	"math"
	"math/rand"
	"slices"
	"testing"

	"loop.example/g03006/impl"
)

// waitBound is the oracle for WaitBound of a list of paths for which ArePaths holds.
func waitBound(l []impl.Path) int {
	longest := 0
	for _, p := range l {
		longest = max(longest, clearSeconds(p))
	}
	return (len(l) + 1) * (60 + longest + 20 + 1)
}

// isRecordTrue is the oracle for IsRecordTrue of a town.
func isRecordTrue(o impl.Town) bool {
	lights, ok := shownAt(o.Record, o.Now)
	return ok && slices.Equal(lights, lightsNow(o))
}

// faultOf is the oracle for FaultOf.
func faultOf(o impl.Town) string {
	switch {
	case !isTown(o):
		return "town"
	case !areSafe(o.Paths, lightsNow(o)):
		return "lights"
	case !isRecordTrue(o):
		return "record"
	}
	for _, one := range o.Wants {
		if one.Wait > waitBound(o.Paths) {
			return "wait"
		}
	}
	return ""
}

func TestAreLightsSafe(t *testing.T) {
	l := cross()
	cases := []struct {
		o    impl.Town
		want bool
	}{
		{newTown(l), true}, {impl.Town{Paths: l, Power: true, Control: opened(0, 1)}, true}, {impl.Town{Paths: l, Power: true, Control: closing([]int{1}, 5, []int{2, 3, 4}, 1)}, true}, {impl.Town{Paths: l, Power: true, Control: opened(0, 1), Now: -1, Books: -1}, true},
		// A controller that is none; then without power and with a broken red lamp, which shows red alone.
		{impl.Town{Paths: l, Power: true, Control: opened(0, 1, 2)}, false}, {impl.Town{Paths: l, Power: true}, false}, {impl.Town{Paths: l, Power: true, Control: opened(-1, 1)}, false}, {impl.Town{Paths: l, Control: opened(0, 1, 2)}, true}, {impl.Town{Paths: l, Power: true, Control: opened(0, 1, 2), Lamps: []impl.Lamp{brokenLamp(3, 0)}}, true}, {impl.Town{Paths: l, Power: true, Control: opened(0, 1, 2), Lamps: []impl.Lamp{brokenLamp(3, 1)}}, false},
		// No paths, and paths for which ArePaths is false.
		{impl.Town{}, true}, {impl.Town{Power: true}, true}, {impl.Town{Paths: walks(1, 13)}, false}, {impl.Town{Paths: []impl.Path{l[1], l[0]}}, false}, {impl.Town{Paths: []impl.Path{l[1], l[0]}, Power: true, Control: opened(0, 1)}, false},
	}
	for _, c := range cases {
		if got := impl.AreLightsSafe(c.o); got != c.want {
			t.Errorf("AreLightsSafe(%v) = %v", c.o, got)
		}
	}
	for _, o := range someTowns(361, 150) {
		if !impl.AreLightsSafe(o) || !areSafe(o.Paths, lightsNow(o)) {
			t.Errorf("AreLightsSafe(%v) is false", o)
		}
	}
}

func TestIsRecordTrue(t *testing.T) {
	o := newTown(cross())
	with := func(change func(o *impl.Town)) impl.Town { return withTown(o, change) }
	cases := []struct {
		o    impl.Town
		want bool
	}{
		{o, true}, {with(func(o *impl.Town) { o.Now = 500 }), true}, {knownTowns()[1], true},
		// Lights that are not recorded: another stage, no power, a broken red lamp.
		{with(func(o *impl.Town) { o.Control = opened(0, 2, 3, 4) }), false}, {with(func(o *impl.Town) { o.Control = opened(0, 3) }), false}, {with(func(o *impl.Town) { o.Control = closing([]int{1}, 5, []int{2}, 1) }), false}, {with(func(o *impl.Town) { o.Power = false }), false}, {with(func(o *impl.Town) { o.Lamps = []impl.Lamp{brokenLamp(4, 0)} }), false}, {with(func(o *impl.Town) { o.Lamps = []impl.Lamp{brokenLamp(1, 1)} }), true}, {with(func(o *impl.Town) { o.Record = sealedUp(shown(0, 0, 0, 0, 0)) }), false}, {with(func(o *impl.Town) { o.Record, o.Power = sealedUp(shown(0, 0, 0, 0, 0)), false }), true},
		// What is recorded later than Now does not count; what is recorded just at Now does.
		{with(func(o *impl.Town) { o.Record = sealedUp(shown(0, 1, 0, 0, 0), shown(1, 0, 0, 0, 0)) }), true}, {with(func(o *impl.Town) { o.Record = sealedUp(shown(0, 0, 0, 0, 0), shown(1, 1, 0, 0, 0)) }), false}, {with(func(o *impl.Town) { o.Record, o.Now = sealedUp(shown(0, 0, 0, 0, 0), shown(1, 1, 0, 0, 0)), 1 }), true}, {with(func(o *impl.Town) { o.Record = sealedUp(shown(1, 1, 0, 0, 0)) }), false}, {with(func(o *impl.Town) { o.Now = -1 }), false}, {with(func(o *impl.Town) { o.Now = math.MinInt }), false}, {with(func(o *impl.Town) { o.Now = math.MaxInt }), true},
		// Without an entry, with fewer lights or more, with a seal that is none.
		{with(func(o *impl.Town) { o.Record = nil }), false}, {with(func(o *impl.Town) { o.Record = sealedUp(shown(0, 1, 0, 0)) }), false}, {with(func(o *impl.Town) { o.Record = sealedUp(shown(0, 1, 0, 0, 0, 0)) }), false}, {with(func(o *impl.Town) { o.Record[0].Seal++ }), false},
		// Towns that are not valid.
		{impl.Town{}, false}, {impl.Town{Record: sealedUp(shown(0))}, true}, {impl.Town{Power: true, Record: sealedUp(shown(0))}, true}, {impl.Town{Paths: cross(), Power: true, Record: sealedUp(shown(0))}, true}, {impl.Town{Paths: cross(), Record: sealedUp(shown(0))}, false}, {with(func(o *impl.Town) { o.Books, o.Prio = -1, prio(1, 1) }), true},
	}
	for _, c := range cases {
		if got := impl.IsRecordTrue(c.o); got != c.want {
			t.Errorf("IsRecordTrue(%v) = %v", c.o, got)
		}
	}
	for _, o := range someTowns(362, 150) {
		if got := impl.IsRecordTrue(o); got != isRecordTrue(o) {
			t.Errorf("IsRecordTrue(%v) = %v", o, got)
		}
	}
}

func TestWaitBound(t *testing.T) {
	cases := []struct {
		l    []impl.Path
		want int
	}{
		// No paths, one path of each kind, four of which one is a walk, and MaxPaths.
		{nil, 81}, {[]impl.Path{}, 81}, {[]impl.Path{car(1, 0, 2)}, 2 * 83}, {[]impl.Path{bus(1, 0, 2)}, 2 * 84}, {[]impl.Path{walk(1, 0)}, 2 * 86}, {cross(), 430}, {rich(), 13 * 86}, {walks(1, 12), 13 * 86}, {[]impl.Path{car(1, 0, 2), bus(2, 1, 3)}, 3 * 84},
		// Paths for which ArePaths is false, which clear for 0 seconds.
		{walks(1, 13), 14 * 81}, {walks(1, 21), 22 * 81}, {[]impl.Path{{}}, 2 * 81}, {[]impl.Path{walk(2, 0), walk(1, 0)}, 3 * 81}, {make([]impl.Path, 1000), 1001 * 81},
	}
	for _, c := range cases {
		if got := impl.WaitBound(c.l); got != c.want {
			t.Errorf("WaitBound(%v) = %d; want %d", c.l, got, c.want)
		}
	}
	for _, l := range stagedCrossings(363, 100) {
		if got := impl.WaitBound(l); got != waitBound(l) {
			t.Errorf("WaitBound(%v) = %d; want %d", l, got, waitBound(l))
		}
	}
	for _, l := range notCrossings() {
		if got := impl.WaitBound(l); got != (len(l)+1)*81 {
			t.Errorf("WaitBound(%v) = %d", l, got)
		}
	}
}

func TestAreWaitsBounded(t *testing.T) {
	cases := []struct {
		l    []impl.Path
		w    []impl.Want
		want bool
	}{
		// No want, a want of just the bound, one more, and one of several.
		{cross(), nil, true}, {cross(), []impl.Want{want(2, 430)}, true}, {cross(), []impl.Want{want(2, 431)}, false}, {cross(), []impl.Want{want(1, 431), want(2, 0)}, false}, {cross(), []impl.Want{want(1, 0), want(2, 431), want(3, 5)}, false}, {cross(), []impl.Want{want(1, 430), want(2, 430), want(4, 430)}, true}, {cross(), []impl.Want{want(1, 430), want(4, 100000)}, false},
		{nil, nil, true}, {nil, []impl.Want{want(1, 81)}, true}, {nil, []impl.Want{want(1, 82)}, false}, {walks(1, 12), []impl.Want{want(12, 1118)}, true}, {walks(1, 12), []impl.Want{want(12, 1119)}, false}, {walks(1, 13), []impl.Want{want(12, 1134)}, true}, {walks(1, 13), []impl.Want{want(12, 1135)}, false},
		// Wants that are not valid.
		{cross(), []impl.Want{want(9, 430), want(-1, math.MinInt), want(9, -5)}, true}, {cross(), []impl.Want{want(9, math.MaxInt)}, false}, {cross(), []impl.Want{want(2, 1<<32)}, false},
	}
	for _, c := range cases {
		for _, o := range []impl.Town{{Paths: c.l, Wants: c.w}, {Paths: c.l, Wants: c.w, Power: true, Now: -1}} {
			if got := impl.AreWaitsBounded(o); got != c.want {
				t.Errorf("AreWaitsBounded(%v) = %v", o, got)
			}
		}
	}
}

func TestFaultOf(t *testing.T) {
	o := newTown(cross())
	with := func(change func(o *impl.Town)) impl.Town { return withTown(o, change) }
	dark, late := func(o *impl.Town) { o.Power = false }, func(o *impl.Town) { o.Wants = []impl.Want{want(2, 431)} }
	cases := []struct {
		o    impl.Town
		want string
	}{
		{o, ""}, {knownTowns()[1], ""}, {with(func(o *impl.Town) { o.Wants = []impl.Want{want(2, 430)} }), ""},
		// Each fault alone. The lights of a town that is valid are always safe.
		{with(func(o *impl.Town) { o.Now = -1 }), "town"}, {with(dark), "record"}, {with(func(o *impl.Town) { o.Lamps = []impl.Lamp{brokenLamp(1, 0)} }), "record"}, {with(func(o *impl.Town) { o.Control = opened(0, 2) }), "record"}, {with(late), "wait"},
		// Several at once.
		{with(func(o *impl.Town) { dark(o); late(o) }), "record"}, {with(func(o *impl.Town) { dark(o); late(o); o.Books = 1001 }), "town"}, {with(func(o *impl.Town) { o.Control = opened(0, 1, 2) }), "town"}, {with(func(o *impl.Town) { late(o); o.Control = impl.Control{} }), "town"}, {with(func(o *impl.Town) { o.Record = nil }), "town"}, {impl.Town{}, "town"}, {with(func(o *impl.Town) { o.Wants = []impl.Want{want(2, 100001)} }), "town"},
		{with(func(o *impl.Town) { o.Record = sealedUp(shown(0, 1, 0, 0, 0), shown(1, 0, 0, 0, 0)) }), "town"},
	}
	for _, c := range cases {
		if got := impl.FaultOf(c.o); got != c.want || got != faultOf(c.o) {
			t.Errorf("FaultOf(%v) = %q; want %q, or %q", c.o, got, c.want, faultOf(c.o))
		}
	}
	faults := map[string]int{}
	for _, o := range append(someTowns(364, 300), notTowns()...) {
		got := impl.FaultOf(o)
		if got != faultOf(o) {
			t.Errorf("FaultOf(%v) = %q; want %q", o, got, faultOf(o))
		}
		faults[got]++
		// What was noted is true.
		if _, ok := impl.StepSecond(o); ok {
			after, _ := impl.StepSecond(o)
			if fault := impl.FaultOf(after); fault != faultOf(after) || fault == "record" || fault == "town" {
				t.Errorf("FaultOf(%v) = %q; want %q", after, fault, faultOf(after))
			}
		}
	}
	if min(faults[""], faults["town"], faults["record"], faults["wait"]) < 5 {
		t.Error(faults)
	}
}

// Promise 36: all promises hold at every moment, whatever happens in a town, as long as nobody calls for help and no bus has
// priority; and if somebody does, all but the bound of the waits.
func TestAllPromisesHoldAtEveryMoment(t *testing.T) {
	source := rand.New(rand.NewSource(365))
	for _, l := range stagedCrossings(366, 60) {
		if len(l) == 0 {
			continue
		}
		for _, quiet := range []bool{true, false} {
			o := newTown(l)
			for range 120 {
				for _, e := range someEvents(source, l, 2) {
					if quiet && (e.Kind == impl.EvHelp || e.Kind == impl.EvBus) {
						continue
					}
					o, _ = impl.ApplyEvent(o, e)
					if fault := impl.FaultOf(o); fault != "" && (quiet || fault != "wait") {
						t.Fatalf("FaultOf(%v) = %q behind %v", o, fault, e)
					}
				}
			}
		}
	}
}

// Each want is served within the bound while all call for everything all the time.
func TestEachWantIsServedWithinTheBound(t *testing.T) {
	source := rand.New(rand.NewSource(367))
	longest := 0
	for _, l := range [][]impl.Path{cross(), rich(), rivals(), keeps(), sixStages(), sevenStages()} {
		o := newTown(l)
		for range 400 {
			o = impl.RunEvents(o, impl.CallAll(l[source.Intn(len(l)):]))
			o, _ = impl.StepSeconds(o, 1+source.Intn(5))
			if fault := impl.FaultOf(o); fault != "" {
				t.Fatalf("FaultOf(%v) = %q", o, fault)
			}
			for _, one := range o.Wants {
				longest = max(longest, one.Wait)
			}
		}
	}
	if longest < 60 {
		t.Error(longest)
	}
}

func TestAuditsLeaveTheirArguments(t *testing.T) {
	for _, o := range append(someTowns(368, 30), notTowns()...) {
		wantUntouchedTown(t, "an audit", o, func(o impl.Town) {
			impl.AreLightsSafe(o)
			impl.IsRecordTrue(o)
			impl.WaitBound(o.Paths)
			impl.AreWaitsBounded(o)
			impl.FaultOf(o)
		})
	}
}
