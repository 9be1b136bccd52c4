package tests

import (
	"math"
	"math/rand"
	"slices"
	"testing"

	"loop.example/g03006/impl"
)

// event is an event of a kind; what its numbers say depends on it.
func event(kind int, path int, n int, on bool) impl.Event {
	return impl.Event{Kind: kind, Path: path, N: n, On: on}
}

// stepOf returns the step that an event of a kind from 1 to 6 performs.
func stepOf(e impl.Event) step {
	return []step{{}, stepCall(e.Path), stepBus(e.Path), stepLamp(e.Path, e.N, e.On), stepPower(e.On), stepSeconds(e.N), stepHelp(e.Path)}[e.Kind]
}

// afterEvent is the oracle for ApplyEvent.
func afterEvent(o impl.Town, e impl.Event) (impl.Town, bool) {
	if e.Kind < 1 || e.Kind > 6 {
		return o, false
	}
	return stepOf(e).expect(o)
}

// someEvents are events that need not succeed, of each kind and of none.
func someEvents(source *rand.Rand, l []impl.Path, count int) []impl.Event {
	var list []impl.Event
	for range count {
		e := event(1+source.Intn(6), source.Intn(22), []int{0, 1, 2, 5, 10, 40}[source.Intn(6)], source.Intn(2) == 0)
		if len(l) > 0 && source.Intn(6) > 0 {
			e.Path = l[source.Intn(len(l))].Id
		}
		if e.Kind == impl.EvLamp && source.Intn(2) == 0 {
			e.N, e.On = source.Intn(2), source.Intn(4) == 0
		}
		if source.Intn(12) == 0 {
			e = oddEvents()[source.Intn(len(oddEvents()))]
		}
		list = append(list, e)
	}
	return list
}

// oddEvents are events that never succeed.
func oddEvents() []impl.Event {
	return []impl.Event{
		{}, event(0, 1, 1, true), event(7, 1, 1, true), event(-1, 2, 5, true), event(math.MinInt, 1, 1, false), event(math.MaxInt, 1, 1, true), event(1<<32+1, 1, 1, true), event(256+5, 1, 1, true),
		event(impl.EvCall, 99, 1, true), event(impl.EvBus, math.MinInt, 1, true), event(impl.EvLamp, 1, 2, true), event(impl.EvLamp, 1, -1, false), event(impl.EvLamp, math.MaxInt, 0, true), event(impl.EvSeconds, 1, 0, true), event(impl.EvSeconds, 1, -1, true), event(impl.EvSeconds, 1, 101, true), event(impl.EvSeconds, 1, math.MinInt, true), event(impl.EvSeconds, 1, math.MaxInt, true), event(impl.EvSeconds, 1, 1<<32+1, true), event(impl.EvHelp, 0, 1, true),
	}
}

func TestEventName(t *testing.T) {
	if impl.EvCall != 1 || impl.EvBus != 2 || impl.EvLamp != 3 || impl.EvPower != 4 || impl.EvSeconds != 5 || impl.EvHelp != 6 {
		t.Error("kinds")
	}
	for _, kind := range around(0, 7) {
		want := map[int]string{1: "call", 2: "bus", 3: "lamp", 4: "power", 5: "seconds", 6: "help"}[kind]
		if got := impl.EventName(kind); got != want {
			t.Errorf("EventName(%d) = %q; want %q", kind, got, want)
		}
	}
}

// wantEvent checks an event in a town against its oracle, and returns the town behind it.
func wantEvent(t *testing.T, o impl.Town, e impl.Event) (impl.Town, bool) {
	t.Helper()
	want, can := afterEvent(o, e)
	got, ok := impl.ApplyEvent(o, e)
	if ok != can || !sameTown(got, want) {
		t.Fatalf("ApplyEvent(%v, %v) = %v, %v; want %v, %v", o, e, got, ok, want, can)
	}
	return got, ok
}

func TestApplyEvent(t *testing.T) {
	o := newTown(cross())
	with := func(change func(o *impl.Town)) impl.Town { return withTown(o, change) }
	cases := []struct {
		e    impl.Event
		want impl.Town
	}{
		// Each kind, whatever is in the fields that say nothing in it.
		{event(impl.EvCall, 3, 0, false), with(func(o *impl.Town) { o.Wants = []impl.Want{want(3, 0)} })}, {event(impl.EvCall, 3, math.MinInt, true), with(func(o *impl.Town) { o.Wants = []impl.Want{want(3, 0)} })}, {event(impl.EvBus, 4, 77, true), with(func(o *impl.Town) { o.Prio = prio(4, 20) })},
		{event(impl.EvLamp, 3, 1, true), with(func(o *impl.Town) { o.Lamps = []impl.Lamp{brokenLamp(3, 1)} })}, {event(impl.EvLamp, 3, 0, false), with(func(o *impl.Town) { o.Lamps = []impl.Lamp{lamp(3, 0)} })}, {event(impl.EvPower, 77, -5, false), with(func(o *impl.Town) { o.Power, o.Record = false, sealedUp(shown(0, 0, 0, 0, 0)) })},
		{event(impl.EvSeconds, math.MaxInt, 4, true), with(func(o *impl.Town) { o.Now, o.Control = 4, opened(4, 1) })}, {event(impl.EvSeconds, 0, 100, false), with(func(o *impl.Town) { o.Now, o.Control = 100, opened(100, 1) })}, {event(impl.EvHelp, 1, 0, true), with(func(o *impl.Town) { o.Now, o.Control = 1, opened(1, 1) })},
	}
	for _, c := range cases {
		if got, ok := impl.ApplyEvent(o, c.e); !ok || !sameTown(got, c.want) {
			t.Errorf("ApplyEvent(%v) = %v, %v; want %v", c.e, got, ok, c.want)
		}
		wantEvent(t, o, c.e)
	}
	for _, o := range knownTowns() {
		for _, e := range oddEvents() {
			if got, ok := impl.ApplyEvent(o, e); ok || !sameTown(got, o) {
				t.Errorf("ApplyEvent(%v, %v) = %v, %v", o, e, got, ok)
			}
		}
		for _, kind := range around(0, 7) {
			wantEvent(t, o, event(kind, 1, 1, !o.Power))
			wantEvent(t, o, event(kind, 4, 0, true))
		}
		for _, n := range around(0, 101) {
			wantEvent(t, o, event(impl.EvLamp, 1, n, true))
			if n < 3 || n > 99 {
				wantEvent(t, o, event(impl.EvSeconds, 1, n, true))
			}
		}
	}
	for i, o := range notTowns() {
		for kind := -1; kind <= 7; kind++ {
			if got, ok := impl.ApplyEvent(o, event(kind, 1+i%4, i%3, !o.Power)); ok || !sameTown(got, o) {
				t.Errorf("ApplyEvent(%v) of the kind %d is %v, %v", o, kind, got, ok)
			}
		}
	}
}

func TestRunEvents(t *testing.T) {
	o := newTown(cross())
	call, later, none := event(impl.EvCall, 3, 0, false), event(impl.EvSeconds, 0, 4, false), event(7, 0, 0, false)
	want := withTown(o, func(o *impl.Town) { o.Now, o.Control, o.Wants = 4, opened(4, 1), []impl.Want{want(3, 4)} })
	for _, list := range [][]impl.Event{
		{call, later},
		// One of no kind first, between and last, and one that does not succeed.
		{none, call, later}, {call, none, later}, {call, later, none}, {{}, call, event(-1, 3, 3, true), later, event(math.MinInt, 1, 1, true)}, {call, call, later, event(impl.EvSeconds, 0, 101, false)}, {event(impl.EvPower, 0, 0, true), call, event(impl.EvCall, 9, 0, false), later, event(impl.EvHelp, 3, 0, false)},
	} {
		if got := impl.RunEvents(o, list); !sameTown(got, want) {
			t.Errorf("RunEvents(%v) = %v; want %v", list, got, want)
		}
	}
	for _, o := range append(knownTowns(), notTowns()...) {
		if !sameTown(impl.RunEvents(o, nil), o) || !sameTown(impl.RunEvents(o, []impl.Event{}), o) || !sameTown(impl.RunEvents(o, []impl.Event{none, {}}), o) {
			t.Errorf("RunEvents of %v and nothing is %v", o, impl.RunEvents(o, nil))
		}
	}
	source := rand.New(rand.NewSource(351))
	for _, o := range notTowns() {
		if got := impl.RunEvents(o, someEvents(source, o.Paths, 8)); !sameTown(got, o) {
			t.Errorf("RunEvents of %v, which is no town, is %v", o, got)
		}
	}
}

// Promise 35: histories can be divided: what happens before and then what happens behind makes the same town as all of it, wherever
// it is divided.
func TestHistoriesCanBeDivided(t *testing.T) {
	source := rand.New(rand.NewSource(352))
	done := 0
	for _, o := range someTowns(353, 60) {
		list := someEvents(source, o.Paths, source.Intn(20))
		whole := impl.RunEvents(o, list)
		for at := range len(list) + 1 {
			if got := impl.RunEvents(impl.RunEvents(o, list[:at]), list[at:]); !impl.EqualTowns(got, whole) || !sameTown(got, whole) {
				t.Fatalf("RunEvents(%v, %v), divided at %d, is %v, and not %v", o, list, at, got, whole)
			}
		}
		each := o
		for _, e := range list {
			next, ok := wantEvent(t, each, e)
			if each = next; ok {
				done++
			}
		}
		if !sameTown(each, whole) || !impl.IsTown(whole) {
			t.Fatalf("RunEvents(%v, %v) = %v; want %v", o, list, whole, each)
		}
	}
	if done < 250 {
		t.Error(done)
	}
}

func TestCountEvents(t *testing.T) {
	list := []impl.Event{event(1, 0, 0, false), event(5, 1, 1, true), event(1, 9, 9, true), event(0, 1, 1, true), event(-1, 1, 1, true), event(7, 1, 1, true), event(7, 0, 0, true), event(math.MaxInt, 1, 1, true), event(1, 1, 5, true)}
	counts := map[int]int{1: 3, 5: 1, 0: 1, -1: 1, 7: 2, math.MaxInt: 1}
	for _, kind := range around(0, 7) {
		if got := impl.CountEvents(list, kind); got != counts[kind] {
			t.Errorf("CountEvents(%v, %d) = %d; want %d", list, kind, got, counts[kind])
		}
		if impl.CountEvents(nil, kind) != 0 || impl.CountEvents([]impl.Event{}, kind) != 0 {
			t.Errorf("CountEvents of no event and %d", kind)
		}
	}
}

func TestCallAll(t *testing.T) {
	// Paths for which ArePaths is false have calls, too.
	for _, l := range append(stagedCrossings(354, 60), notCrossings()...) {
		var want []impl.Event
		for _, p := range l {
			want = append(want, impl.Event{Kind: 1, Path: p.Id})
		}
		if got := impl.CallAll(l); !slices.Equal(got, want) {
			t.Errorf("CallAll(%v) = %v; want %v", l, got, want)
		}
		if len(l) == 0 || !impl.ArePaths(l) {
			continue
		}
		o := newTown(l)
		if got := impl.RunEvents(o, impl.CallAll(l)); len(got.Wants) != len(l) || impl.CountEvents(impl.CallAll(l), impl.EvCall) != len(l) {
			t.Errorf("behind CallAll(%v) there are the wants %v", l, got.Wants)
		}
	}
}

func TestEventsAreNewMemory(t *testing.T) {
	source := rand.New(rand.NewSource(355))
	for i, o := range append(someTowns(356, 20), notTowns()...) {
		if len(o.Record) > 60 || i%3 > 0 {
			continue
		}
		wantUntouchedTown(t, "an event", o, func(o impl.Town) {
			wantUntouchedList(t, "RunEvents", someEvents(source, o.Paths, source.Intn(5)), event(1, 1, 1, true), func(list []impl.Event) {
				impl.CountEvents(list, 1)
				wantOwnTown(t, "RunEvents", func() impl.Town { return impl.RunEvents(o, list) })
				for _, e := range append(slices.Clone(list), impl.Event{}) {
					wantOwnTown(t, "ApplyEvent", func() impl.Town { after, _ := impl.ApplyEvent(o, e); return after })
				}
			})
			wantOwnList(t, "CallAll", event(7, 7, 7, true), func() []impl.Event { return impl.CallAll(o.Paths) })
		})
	}
}
