package tests

import (
	"fmt"
	"math"
	"math/rand"
	"slices"
	"testing"

	"loop.example/g03006/impl"
)

// noted is the oracle for a town that notes its lights. It has entries.
func noted(o impl.Town) impl.Town {
	lights, before := lightsNow(o), o.Record
	if last := len(before) - 1; before[last].Second == o.Now {
		before = before[:last]
	}
	switch last := len(before) - 1; {
	case last >= 0 && slices.Equal(before[last].Lights, lights):
		o.Record = before
	case len(before) == 60:
		o.Record = sealedUp(shown(o.Now, lights...))
		o.Books++
	default:
		o.Record = sealedUp(append(copyRecord(before), shown(o.Now, lights...))...)
	}
	return o
}

// step is something that can happen to a town: what the program makes of it, and the oracle for that of a valid town, which need
// not see whether the result is valid.
type step struct {
	name   string
	call   func(o impl.Town) (impl.Town, bool)
	oracle func(o impl.Town) (impl.Town, bool)
}

// expect is the oracle for what a step returns.
func (s step) expect(o impl.Town) (impl.Town, bool) {
	if isTown(o) {
		if after, ok := s.oracle(copyTown(o)); ok && isTown(after) {
			return after, true
		}
	}
	return o, false
}

func stepCall(path int) step {
	return step{fmt.Sprint("StepCall ", path), func(o impl.Town) (impl.Town, bool) { return impl.StepCall(o, path) }, func(o impl.Town) (impl.Town, bool) {
		more := withWant(o.Paths, o.Wants, path)
		ok := len(more) > len(o.Wants)
		o.Wants = more
		return o, ok
	}}
}

func stepBus(path int) step {
	return step{fmt.Sprint("StepBus ", path), func(o impl.Town) (impl.Town, bool) { return impl.StepBus(o, path) }, func(o impl.Town) (impl.Town, bool) {
		ok := o.Prio == impl.Prio{} && hasBus(o.Paths, path)
		o.Prio = prio(path, 20)
		return o, ok
	}}
}

func stepLamp(path int, colour int, broken bool) step {
	return step{fmt.Sprint("StepLamp ", path, colour, broken), func(o impl.Town) (impl.Town, bool) { return impl.StepLamp(o, path, colour, broken) }, func(o impl.Town) (impl.Town, bool) {
		one := impl.Lamp{Path: path, Colour: colour, Broken: broken}
		if at := slices.IndexFunc(o.Lamps, func(x impl.Lamp) bool { return x.Path == path && x.Colour == colour }); at >= 0 {
			o.Lamps[at] = one
		} else {
			o.Lamps = append(o.Lamps, one)
		}
		return noted(o), true
	}}
}

func stepPower(on bool) step {
	return step{fmt.Sprint("StepPower ", on), func(o impl.Town) (impl.Town, bool) { return impl.StepPower(o, on) }, func(o impl.Town) (impl.Town, bool) {
		ok := o.Power != on
		o.Power = on
		return noted(o), ok
	}}
}

// secondLater is the oracle for StepSecond of a valid town.
func secondLater(o impl.Town) (impl.Town, bool) {
	if modeOf(o) == 0 {
		o.Control, o.Wants, o.Prio = stepPrio(favoured{asked{steered{o.Paths, o.Control}, o.Wants}, o.Prio})
	}
	o.Now++
	return noted(o), true
}

func stepSecond() step { return step{"StepSecond", impl.StepSecond, secondLater} }

func stepHelp(path int) step {
	return step{fmt.Sprint("StepHelp ", path), func(o impl.Town) (impl.Town, bool) { return impl.StepHelp(o, path) }, func(o impl.Town) (impl.Town, bool) {
		if !canCome(o.Paths, path) {
			return o, false
		}
		if modeOf(o) == 0 {
			o.Control = stepSiren(steered{o.Paths, o.Control}, path)
			o.Wants = stillWaiting(o.Paths, o.Control, o.Wants)
			if o.Prio.Left--; o.Prio.Left <= 0 {
				o.Prio = impl.Prio{}
			}
		}
		o.Now++
		return noted(o), true
	}}
}

func stepSeconds(n int) step {
	return step{fmt.Sprint("StepSeconds ", n), func(o impl.Town) (impl.Town, bool) { return impl.StepSeconds(o, n) }, func(o impl.Town) (impl.Town, bool) {
		if n < 1 || n > 100 {
			return o, false
		}
		for range n {
			after, ok := stepSecond().expect(o)
			if !ok {
				return o, false
			}
			o = after
		}
		return o, true
	}}
}

// drawStep draws a step that can be done most often.
func drawStep(source *rand.Rand, o impl.Town) step {
	path := source.Intn(22)
	if len(o.Paths) > 0 && source.Intn(10) > 0 {
		path = o.Paths[source.Intn(len(o.Paths))].Id
	}
	switch source.Intn(12) {
	case 0, 1, 2:
		return stepCall(path)
	case 3:
		return stepBus(path)
	case 4:
		return stepLamp(path, source.Intn(3)-source.Intn(20)/19, source.Intn(3) == 0)
	case 5:
		// Repairs are more frequent than faults, so that most towns work as planned.
		for _, one := range o.Lamps {
			if one.Broken {
				return stepLamp(one.Path, one.Colour, false)
			}
		}
		return stepPower(source.Intn(4) > 0)
	case 6:
		return stepHelp(path)
	case 7, 8:
		return stepSeconds([]int{1, 2, 5, 10, 30, 100, 0, 101}[source.Intn(8)])
	}
	return stepSecond()
}

// wantStep checks a step of a town against its oracle, and returns the town behind it.
func wantStep(t *testing.T, o impl.Town, s step) impl.Town {
	t.Helper()
	want, can := s.expect(o)
	got, ok := s.call(o)
	if ok != can || !sameTown(got, want) {
		t.Fatalf("%s of %v is\n%v, %v; want\n%v, %v", s.name, o, got, ok, want, can)
	}
	return got
}

// wantSteps checks steps one after the other, each of which must succeed.
func wantSteps(t *testing.T, o impl.Town, steps ...step) impl.Town {
	t.Helper()
	for _, s := range steps {
		if _, ok := s.call(o); !ok {
			t.Fatalf("%s of %v does not succeed", s.name, o)
		}
		o = wantStep(t, o, s)
	}
	return o
}

// wantNoStep checks steps of a town none of which succeeds.
func wantNoStep(t *testing.T, o impl.Town, steps ...step) {
	t.Helper()
	for _, s := range steps {
		if got, ok := s.call(o); ok || !sameTown(got, o) {
			t.Errorf("%s of %v is %v, %v", s.name, o, got, ok)
		}
		wantStep(t, o, s)
	}
}

func TestStepCall(t *testing.T) {
	o := newTown(cross())
	a := wantSteps(t, o, stepCall(3), stepCall(2))
	if !slices.Equal(a.Wants, []impl.Want{want(2, 0), want(3, 0)}) || a.Now != 0 || !sameEntries(a.Record, o.Record) {
		t.Error(a)
	}
	// A path that is LtGreen can be called; one that is wanted already cannot, nor can one that is none.
	wantSteps(t, o, stepCall(1))
	wantNoStep(t, a, stepCall(3), stepCall(2), stepCall(9), stepCall(0), stepCall(-1), stepCall(5), stepCall(math.MinInt), stepCall(math.MaxInt), stepCall(1<<32+1))
	dark := wantSteps(t, o, stepPower(false), stepCall(1), stepCall(2), stepCall(3), stepCall(4))
	if len(dark.Wants) != 4 {
		t.Error(dark)
	}
}

func TestStepBus(t *testing.T) {
	o := newTown(cross())
	a := wantSteps(t, o, stepBus(4))
	if a.Prio != prio(4, 20) || a.Now != 0 {
		t.Error(a)
	}
	// A walk and a car, a bus while another has priority, and paths that are none.
	wantNoStep(t, o, stepBus(3), stepBus(1), stepBus(2), stepBus(9), stepBus(0), stepBus(-4), stepBus(math.MinInt), stepBus(math.MaxInt))
	wantNoStep(t, a, stepBus(4), stepBus(3), stepBus(9), stepBus(0))
	two := newTown([]impl.Path{bus(1, 0, 2), bus(2, 1, 3)})
	wantNoStep(t, wantSteps(t, two, stepBus(2)), stepBus(1), stepBus(2))
	// A priority that ends makes room for another one.
	b := wantSteps(t, two, stepBus(2), stepSeconds(19))
	if b.Prio != prio(2, 1) {
		t.Error(b.Prio)
	}
	wantNoStep(t, b, stepBus(1))
	if c := wantSteps(t, b, stepSecond()); c.Prio != (impl.Prio{}) || wantSteps(t, c, stepBus(1)).Prio != prio(1, 20) {
		t.Error(c.Prio)
	}
}

func TestStepLamp(t *testing.T) {
	o := newTown(cross())
	// One that is not there is appended, broken or not; one that is there is set.
	a := wantSteps(t, o, stepLamp(2, 1, false), stepLamp(1, 1, true), stepLamp(2, 1, true), stepLamp(1, 1, false), stepLamp(1, 1, false))
	if !slices.Equal(a.Lamps, []impl.Lamp{brokenLamp(2, 1), lamp(1, 1)}) || len(a.Record) != 1 || a.Now != 0 {
		t.Error(a)
	}
	// A red one that breaks is noted at once, and so is one that is mended.
	b := wantSteps(t, o, stepSeconds(3), stepLamp(4, 0, true))
	c := wantSteps(t, b, stepSeconds(3), stepLamp(4, 0, false))
	if !sameEntries(b.Record, sealedUp(shown(0, 1, 0, 0, 0), shown(3, 0, 0, 0, 0))) || !sameEntries(c.Record, sealedUp(shown(0, 1, 0, 0, 0), shown(3, 0, 0, 0, 0), shown(6, 1, 0, 0, 0))) || c.Control.Since != 3 || c.Now != 6 {
		t.Error(b, c)
	}
	// Of no path and of no colour.
	for _, broken := range []bool{false, true} {
		wantNoStep(t, a, stepLamp(9, 0, broken), stepLamp(0, 1, broken), stepLamp(-1, 0, broken), stepLamp(1, 2, broken), stepLamp(1, -1, broken), stepLamp(2, 3, broken), stepLamp(math.MinInt, 0, broken), stepLamp(math.MaxInt, 1, broken), stepLamp(1, math.MinInt, broken), stepLamp(1, math.MaxInt, broken), stepLamp(1<<32+1, 0, broken), stepLamp(1, 1<<32, broken))
	}
	// The most lamps that there can be, and one more.
	most := newTown(walks(1, 12))
	for path := 1; path <= 12; path++ {
		most = wantSteps(t, most, stepLamp(path, 0, false), stepLamp(path, 1, true))
	}
	if len(most.Lamps) != 24 {
		t.Error(most.Lamps)
	}
	wantNoStep(t, most, stepLamp(13, 0, false), stepLamp(0, 0, false), stepLamp(1, 2, false))
	wantSteps(t, most, stepLamp(12, 1, false), stepLamp(1, 0, true))
}

func TestStepPower(t *testing.T) {
	o := newTown(cross())
	wantNoStep(t, o, stepPower(true))
	off := wantSteps(t, o, stepPower(false))
	wantNoStep(t, off, stepPower(false))
	if !sameEntries(off.Record, sealedUp(shown(0, 0, 0, 0, 0))) || !sameTown(wantSteps(t, off, stepPower(true)), o) {
		t.Error(off)
	}
	later := wantSteps(t, o, stepSeconds(4), stepPower(false), stepSeconds(7), stepPower(true))
	if !sameEntries(later.Record, sealedUp(shown(0, 1, 0, 0, 0), shown(4, 0, 0, 0, 0), shown(11, 1, 0, 0, 0))) || !sameControl(later.Control, opened(4, 1)) {
		t.Error(later)
	}
	// With a broken red lamp it is dark or blinks, and both show the same.
	blinks := wantSteps(t, o, stepSeconds(4), stepLamp(2, 0, true), stepSeconds(2), stepPower(false), stepSeconds(2), stepPower(true))
	if len(blinks.Record) != 2 {
		t.Error(blinks)
	}
}

// Several steps at one second leave one entry for it, or none if the last one brings the lights of the entry before back.
func TestSeveralStepsAtOneSecond(t *testing.T) {
	o := wantSteps(t, newTown(cross()), stepSeconds(4))
	dark := sealedUp(shown(0, 1, 0, 0, 0), shown(4, 0, 0, 0, 0))
	for _, c := range []struct {
		steps []step
		want  []impl.Entry
	}{
		{[]step{stepPower(false), stepPower(true)}, o.Record}, {[]step{stepPower(false), stepLamp(2, 0, true), stepPower(true)}, dark}, {[]step{stepPower(false), stepPower(true), stepPower(false)}, dark}, {[]step{stepLamp(2, 0, true), stepLamp(2, 0, false)}, o.Record}, {[]step{stepLamp(2, 0, true), stepLamp(1, 0, true), stepLamp(2, 0, false)}, dark}, {[]step{stepLamp(2, 0, true), stepLamp(1, 0, true), stepLamp(2, 0, false), stepLamp(1, 0, false)}, o.Record}, {[]step{stepLamp(2, 1, true), stepCall(2), stepBus(4)}, o.Record},
		{[]step{stepPower(false), stepSecond(), stepPower(true)}, sealedUp(append(dark, shown(5, 1, 0, 0, 0))...)}, {[]step{stepPower(false), stepSecond(), stepPower(true), stepPower(false)}, dark},
	} {
		if got := wantSteps(t, o, c.steps...); !sameEntries(got.Record, c.want) {
			t.Errorf("the record becomes %v; want %v", got.Record, c.want)
		}
	}
	// The entry that was replaced was the only one.
	first := wantSteps(t, newTown(cross()), stepPower(false), stepPower(true), stepPower(false))
	if !sameEntries(first.Record, sealedUp(shown(0, 0, 0, 0, 0))) {
		t.Error(first.Record)
	}
}

// fullTown is a town at a second whose record has so many entries, the last one, with all lights red, at another second.
func fullTown(entries int, last int, now int, books int) impl.Town {
	o := withTown(newTown(cross()), func(o *impl.Town) { o.Power, o.Now, o.Books, o.Record = false, now, books, nil })
	for i := range entries {
		lights := []int{(entries - 1 - i) % 2, 0, 0, 0}
		o.Record = append(o.Record, shown(last+1-entries+i, lights...))
	}
	o.Record = sealedUp(o.Record...)
	return o
}

func TestFullRecords(t *testing.T) {
	lit := []int{1, 0, 0, 0}
	// With the last entry before Now another record begins, and with the last one at Now this one is replaced.
	before, at, room := fullTown(60, 70, 99, 3), fullTown(60, 99, 99, 3), fullTown(59, 70, 99, 3)
	a := wantSteps(t, before, stepPower(true))
	if !sameEntries(a.Record, sealedUp(shown(99, lit...))) || a.Books != 4 {
		t.Error(a)
	}
	// The same second again: the new record has nothing before this entry, so that its lights are noted whatever they are.
	if b := wantSteps(t, a, stepPower(false)); !sameEntries(b.Record, sealedUp(shown(99, 0, 0, 0, 0))) || b.Books != 4 {
		t.Error(b)
	}
	if b := wantSteps(t, at, stepPower(true)); len(b.Record) != 59 || b.Books != 3 || b.Record[58].Second != 98 {
		t.Error(b)
	}
	if b := wantSteps(t, wantSteps(t, at, stepPower(true)), stepPower(false)); !sameTown(b, at) {
		t.Error(b)
	}
	// A full record of which the last entry is replaced by another one stays full.
	two := withTown(at, func(o *impl.Town) {
		o.Control = opened(8, 2, 3, 4)
		o.Wants = []impl.Want{want(1, 3)}
	})
	if b := wantSteps(t, two, stepPower(true)); len(b.Record) != 60 || b.Books != 3 || !slices.Equal(b.Record[59].Lights, []int{0, 1, 1, 1}) {
		t.Error(b)
	}
	if b := wantSteps(t, room, stepPower(true)); len(b.Record) != 60 || b.Books != 3 || b.Record[59].Second != 99 {
		t.Error(b)
	}
	// A full record of what is shown still needs no other one.
	if b := wantSteps(t, before, stepSeconds(100), stepLamp(1, 0, true)); len(b.Record) != 60 || b.Books != 3 || b.Now != 199 {
		t.Error(b)
	}
	if b := wantSteps(t, before, stepSecond(), stepPower(true)); !sameEntries(b.Record, sealedUp(shown(100, lit...))) || b.Books != 4 {
		t.Error(b)
	}
	// The last record that can be put away, and one more.
	last, more := fullTown(60, 70, 99, 999), fullTown(60, 70, 99, 1000)
	if b := wantSteps(t, last, stepPower(true)); b.Books != 1000 {
		t.Error(b)
	}
	wantNoStep(t, more, stepPower(true))
	wantSteps(t, more, stepSeconds(100), stepCall(2))
	wantSteps(t, fullTown(60, 99, 99, 1000), stepPower(true), stepPower(false))
	wantSteps(t, fullTown(59, 99, 99, 1000), stepPower(true), stepPower(false))
	// A second between that does not succeed: it would put away one record too many.
	opens := withTown(more, func(o *impl.Town) { o.Power, o.Wants = true, []impl.Want{want(1, 5)} })
	opens.Record = sealedUp(append(copyRecord(opens.Record[:59]), shown(70, 0, 1, 1, 1))...)
	opens.Control = opened(5, 2, 3, 4)
	wantSteps(t, opens, stepSecond(), stepSecond())
	wantNoStep(t, wantSteps(t, opens, stepSecond(), stepSecond()), stepSecond(), stepSeconds(1), stepSeconds(30), stepHelp(1))
	wantSteps(t, opens, stepSeconds(2))
	wantNoStep(t, opens, stepSeconds(3), stepSeconds(9), stepSeconds(100))
}

func TestStepSecond(t *testing.T) {
	o := newTown(cross())
	a := wantSteps(t, o, stepCall(3), stepSeconds(5))
	if !sameControl(a.Control, opened(5, 1)) || !slices.Equal(a.Wants, []impl.Want{want(3, 5)}) || len(a.Record) != 1 || a.Now != 5 {
		t.Error(a)
	}
	b := wantSteps(t, a, stepSecond())
	if !sameControl(b.Control, closing([]int{1}, 5, []int{2, 3, 4}, 2)) || !sameEntries(b.Record, sealedUp(shown(0, 1, 0, 0, 0), shown(6, 2, 0, 0, 0))) {
		t.Error(b)
	}
	// The want for a path that opens is gone.
	c := wantSteps(t, b, stepSeconds(2))
	if !sameControl(c.Control, opened(0, 2, 3, 4)) || len(c.Wants) != 0 || c.Now != 8 || len(c.Record) != 3 {
		t.Error(c)
	}
	// A priority goes on, and ends.
	d := wantSteps(t, c, stepBus(4), stepCall(1), stepSeconds(19))
	if d.Prio != prio(4, 1) || !sameControl(d.Control, opened(19, 2, 3, 4)) || wantSteps(t, d, stepSecond()).Prio != (impl.Prio{}) {
		t.Error(d)
	}
	// With a broken lamp and without power only the time goes on.
	for _, fault := range []step{stepLamp(2, 0, true), stepPower(false)} {
		e := wantSteps(t, a, stepBus(4), fault, stepSeconds(30))
		if e.Now != 35 || !sameControl(e.Control, a.Control) || !slices.Equal(e.Wants, a.Wants) || e.Prio != prio(4, 20) || len(e.Record) != 2 || e.Record[1].Second != 5 {
			t.Error(e)
		}
	}
	// A broken green lamp changes nothing.
	if e := wantSteps(t, a, stepLamp(1, 1, true), stepSecond()); !sameControl(e.Control, b.Control) {
		t.Error(e)
	}
	// Now at the end.
	end := withTown(o, func(o *impl.Town) { o.Now = 1000000 })
	wantNoStep(t, end, stepSecond(), stepSeconds(1), stepSeconds(100), stepHelp(1), stepHelp(2))
	wantSteps(t, end, stepCall(2), stepBus(4), stepLamp(1, 0, true), stepPower(false))
	near := withTown(o, func(o *impl.Town) { o.Now = 999998 })
	wantSteps(t, near, stepSecond(), stepSecond())
	wantSteps(t, near, stepSeconds(2))
	wantNoStep(t, near, stepSeconds(3), stepSeconds(100))
	wantNoStep(t, wantSteps(t, near, stepPower(false)), stepSeconds(3))
}

func TestStepHelp(t *testing.T) {
	o := wantSteps(t, newTown(cross()), stepCall(3), stepSeconds(5))
	a := wantSteps(t, o, stepHelp(2))
	b := wantSteps(t, a, stepHelp(2), stepHelp(2))
	if !sameControl(a.Control, closing([]int{1}, 5, []int{2}, 2)) || !slices.Equal(a.Wants, []impl.Want{want(3, 6)}) || a.Now != 6 || !sameControl(b.Control, opened(0, 2)) || !slices.Equal(b.Wants, []impl.Want{want(3, 8)}) || b.Now != 8 || len(b.Record) != 3 {
		t.Error(a, b)
	}
	// For a walk and for no path.
	wantNoStep(t, o, stepHelp(3), stepHelp(9), stepHelp(0), stepHelp(-2), stepHelp(5), stepHelp(math.MinInt), stepHelp(math.MaxInt), stepHelp(1<<32+2))
	// For one that is LtGreen the second passes as another one would, but nobody else opens.
	c := wantSteps(t, o, stepHelp(1), stepHelp(1))
	if !sameControl(c.Control, opened(7, 1)) || !slices.Equal(c.Wants, []impl.Want{want(3, 7)}) {
		t.Error(c)
	}
	// Without power and with a broken lamp only the time goes on, and there is no help for a walk.
	for _, fault := range []step{stepPower(false), stepLamp(2, 0, true)} {
		d := wantSteps(t, o, stepBus(4), fault, stepHelp(2))
		if d.Now != 6 || !sameControl(d.Control, o.Control) || !slices.Equal(d.Wants, o.Wants) || d.Prio != prio(4, 20) {
			t.Error(d)
		}
		wantNoStep(t, d, stepHelp(3), stepHelp(9))
	}
	// Wants for a path that opens go, and a priority ends also while help passes.
	e := wantSteps(t, newTown(cross()), stepBus(4), stepSeconds(4), stepCall(4), stepCall(3), stepHelp(4), stepHelp(4), stepHelp(4))
	if !slices.Equal(e.Wants, []impl.Want{want(3, 3)}) || e.Prio != prio(4, 13) {
		t.Error(e)
	}
	for left := 13; left > 0; left-- {
		if e.Prio != prio(4, left) {
			t.Error(e.Prio, left)
		}
		e = wantSteps(t, e, stepHelp(4))
	}
	if e.Prio != (impl.Prio{}) || wantSteps(t, e, stepHelp(4)).Prio != (impl.Prio{}) {
		t.Error(e.Prio)
	}
}

func TestStepSeconds(t *testing.T) {
	for _, o := range knownTowns() {
		for _, n := range around(0, 100) {
			s := stepSeconds(n)
			if _, ok := s.call(o); ok != (n >= 1 && n <= 100 && o.Now+n <= 1000000) {
				t.Errorf("%s of %v is %v", s.name, o, ok)
			}
		}
		wantStep(t, o, stepSeconds(100))
		wantStep(t, o, stepSeconds(1))
	}
	source := rand.New(rand.NewSource(341))
	for _, o := range someTowns(342, 60) {
		n := 1 + source.Intn(100)
		all, ok := impl.StepSeconds(o, n)
		each := o
		succeeds := true
		for range n {
			next, ok := impl.StepSecond(each)
			each, succeeds = next, succeeds && ok
		}
		if ok != succeeds || ok && !sameTown(all, each) || !ok && !sameTown(all, o) {
			t.Errorf("StepSeconds(%v, %d) = %v, %v; each alone makes %v, %v", o, n, all, ok, each, succeeds)
		}
	}
}

// Promise 34: steps keep towns valid, whatever happens, and those that do not succeed change nothing.
func TestStepsKeepTownsValid(t *testing.T) {
	source := rand.New(rand.NewSource(343))
	done, refused, books := 0, 0, 0
	for _, o := range someTowns(344, 120) {
		for range 60 {
			s := drawStep(source, o)
			after, ok := s.call(o)
			if !impl.IsTown(after) || !isTown(after) || after.Now < o.Now || !ok && !impl.EqualTowns(after, o) || impl.FirstUnsafe(after.Paths, after.Record) != -1 {
				t.Fatalf("%s of %v is %v, %v", s.name, o, after, ok)
			}
			if ok {
				done++
			} else {
				refused++
			}
			books += after.Books - o.Books
			o = wantStep(t, o, s)
		}
	}
	if min(done, refused) < 1000 || books < 20 {
		t.Error(done, refused, books)
	}
}

// Of a town that is not valid every step returns a copy.
func TestStepsOfWhatIsNoTown(t *testing.T) {
	for _, o := range notTowns() {
		steps := []step{stepCall(2), stepBus(4), stepLamp(1, 1, true), stepLamp(2, 0, false), stepPower(!o.Power), stepPower(o.Power), stepSecond(), stepHelp(1), stepHelp(2), stepSeconds(1), stepSeconds(7), stepSeconds(0)}
		wantNoStep(t, o, steps...)
	}
}

func TestStepsAreOnCopies(t *testing.T) {
	source := rand.New(rand.NewSource(345))
	for i, o := range append(someTowns(346, 40), notTowns()...) {
		if len(o.Record) > 60 || i%3 > 0 {
			continue
		}
		wantUntouchedTown(t, "a step", o, func(o impl.Town) {
			steps := []step{stepCall(2), stepCall(9), stepBus(4), stepLamp(1, 0, true), stepLamp(1, 2, true), stepPower(!o.Power), stepPower(o.Power), stepSecond(), stepHelp(1), stepHelp(99), stepSeconds(3), stepSeconds(0)}
			for _, s := range []step{steps[source.Intn(len(steps))], steps[source.Intn(len(steps))], drawStep(source, o)} {
				wantOwnTown(t, s.name, func() impl.Town { after, _ := s.call(o); return after })
			}
		})
	}
}
