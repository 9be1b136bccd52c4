package tests

import (
	"math"
	"math/rand"
	"slices"
	"testing"

	"loop.example/g03006/impl"
)

func slot(minute int, plan int) impl.Slot { return impl.Slot{Minute: minute, Plan: plan} }

// areSlots is the oracle for AreSlots.
func areSlots(l []impl.Slot) bool {
	for i, x := range l {
		if x.Minute < 0 || x.Minute > 1439 || x.Plan < 1 || x.Plan > 99 || i > 0 && x.Minute <= l[i-1].Minute {
			return false
		}
	}
	return len(l) >= 1 && len(l) <= 24
}

// planAt is the oracle for PlanAt: it goes back from the minute to the slot before it.
func planAt(l []impl.Slot, minute int) int {
	if !areSlots(l) || minute < 0 || minute > 1000000 {
		return 0
	}
	for back := range 1440 {
		of := (minute - back + 1440) % 1440
		if i := slices.IndexFunc(l, func(x impl.Slot) bool { return x.Minute == of }); i >= 0 {
			return l[i].Plan
		}
	}
	return 0
}

// nextChange is the oracle for NextChange: it goes from slot to slot.
func nextChange(l []impl.Slot, minute int) int {
	if !areSlots(l) || minute < 0 || minute > 1000000 {
		return -1
	}
	least := -1
	for i, x := range l {
		if x.Plan == l[(i+len(l)-1)%len(l)].Plan {
			continue
		}
		// How far it is to this slot, but not 0.
		far := ((x.Minute-minute-1)%1440+1440)%1440 + 1
		if least < 0 || far < least {
			least = far
		}
	}
	if least < 0 {
		return -1
	}
	return minute + least
}

// minutesOf is the oracle for MinutesOf.
func minutesOf(l []impl.Slot, plan int) int {
	if !areSlots(l) {
		return 0
	}
	count := 0
	for i, x := range l {
		if x.Plan == plan && i < len(l)-1 {
			count += l[i+1].Minute - x.Minute
		}
		if x.Plan == plan && i == len(l)-1 {
			count += 1440 - x.Minute + l[0].Minute
		}
	}
	return count
}

// putSlot is the oracle for PutSlot.
func putSlot(l []impl.Slot, x impl.Slot) ([]impl.Slot, bool) {
	more := slices.Clone(l)
	if i := slices.IndexFunc(more, func(other impl.Slot) bool { return other.Minute == x.Minute }); i >= 0 {
		more[i] = x
	} else {
		more = append(more, x)
		// Only the new one comes forward, so that others that are not in order stay so.
		for n := len(more) - 1; n > 0 && more[n-1].Minute > x.Minute; n-- {
			more[n-1], more[n] = more[n], more[n-1]
		}
	}
	if !areSlots(more) {
		return l, false
	}
	return more, true
}

// fourSlots are the day of most examples.
func fourSlots() []impl.Slot {
	return []impl.Slot{slot(360, 1), slot(540, 2), slot(960, 1), slot(1200, 3)}
}

// hours are 24 slots, the most that a day can have.
func hours() []impl.Slot {
	var l []impl.Slot
	for i := range 24 {
		l = append(l, slot(60*i, 1+i%5))
	}
	return l
}

// drawSlots returns slots that are valid; often the same plan comes again.
func drawSlots(source *rand.Rand) []impl.Slot {
	minutes := source.Perm([]int{1440, 30}[source.Intn(2)])[:[]int{1, 2, 24, 1 + source.Intn(24)}[source.Intn(4)]]
	slices.Sort(minutes)
	minutes[0] *= source.Intn(2)
	if source.Intn(3) == 0 {
		minutes[len(minutes)-1] = 1439
	}
	var l []impl.Slot
	plans := 1 + source.Intn(4)
	for _, minute := range minutes {
		l = append(l, slot(minute, []int{1, 2, 50, 99}[source.Intn(plans)]))
	}
	return l
}

// someSlots are lists for which AreSlots holds.
func someSlots(seed int64, count int) [][]impl.Slot {
	source := rand.New(rand.NewSource(seed))
	list := [][]impl.Slot{
		fourSlots(), hours(), {slot(0, 1)}, {slot(1439, 99)}, {slot(720, 50)}, {slot(0, 1), slot(1439, 2)}, {slot(0, 7), slot(1, 8)}, {slot(1438, 7), slot(1439, 8)},
		// The same plan in two slots one after the other, and in the last and the first one.
		{slot(100, 1), slot(200, 1), slot(300, 2)}, {slot(100, 1), slot(200, 2), slot(300, 1)}, {slot(0, 1), slot(200, 2), slot(1439, 1)}, {slot(5, 2), slot(9, 2)},
	}
	for range count {
		list = append(list, drawSlots(source))
	}
	return list
}

// notSlots are lists of slots of which one cannot be there, or with none or too many.
func notSlots() [][]impl.Slot {
	list := [][]impl.Slot{nil, {}, append(hours(), slot(1439, 1)), make([]impl.Slot, 25), make([]impl.Slot, 1000), {slot(5, 1), slot(5, 2)}, {slot(5, 1), slot(5, 1)}, {slot(9, 1), slot(5, 2)}, {slot(5, 1), slot(9, 1), slot(7, 2)}, {slot(5, 1), slot(4, 1), slot(7, 2)}, {slot(1439, 1), slot(0, 2)}, {{}}}
	for _, n := range []int{-1, 1440, 1441, math.MinInt, math.MaxInt, 1<<32 + 600} {
		list = append(list, []impl.Slot{slot(n, 1)}, []impl.Slot{slot(n, 1), slot(500, 2)}, []impl.Slot{slot(500, 2), slot(n, 1)}, []impl.Slot{slot(100, 2), slot(n, 1), slot(900, 2)})
	}
	for _, n := range []int{0, 100, -1, 101, math.MinInt, math.MaxInt, 1<<32 + 1} {
		list = append(list, []impl.Slot{slot(5, n)}, []impl.Slot{slot(5, n), slot(500, 2)}, []impl.Slot{slot(500, 2), slot(600, n)}, []impl.Slot{slot(100, 2), slot(200, n), slot(900, 2)})
	}
	return list
}

func TestAreSlots(t *testing.T) {
	if impl.DayMinutes != 1440 {
		t.Error(impl.DayMinutes)
	}
	for _, l := range someSlots(263, 300) {
		if !impl.AreSlots(l) || !areSlots(l) {
			t.Errorf("AreSlots(%v) is false", l)
		}
	}
	for _, l := range notSlots() {
		if impl.AreSlots(l) || areSlots(l) {
			t.Errorf("AreSlots(%v) is true", l)
		}
	}
	for _, n := range append(around(1, 99), 1438, 1439, 1440, 1441) {
		for _, l := range [][]impl.Slot{{slot(n, 1)}, {slot(5, n)}, {slot(5, 1), slot(n, 1)}, {slot(n, 1), slot(50, 1)}} {
			if got := impl.AreSlots(l); got != areSlots(l) {
				t.Errorf("AreSlots(%v) = %v", l, got)
			}
		}
	}
}

func TestPlanAt(t *testing.T) {
	l := fourSlots()
	cases := []struct {
		l            []impl.Slot
		minute, want int
	}{
		// At a slot, one before it, before the first and behind the last one.
		{l, 0, 3}, {l, 359, 3}, {l, 360, 1}, {l, 361, 1}, {l, 539, 1}, {l, 540, 2}, {l, 959, 2}, {l, 960, 1}, {l, 1199, 1}, {l, 1200, 3}, {l, 1439, 3},
		// On later days: 1000000 is the minute 640.
		{l, 1440, 3}, {l, 1799, 3}, {l, 1800, 1}, {l, 1980, 2}, {l, 1000000, 2}, {l, 999899, 1}, {l, 999900, 2}, {l, 1000001, 0}, {l, -1, 0}, {l, -1440, 0}, {l, math.MinInt, 0}, {l, math.MaxInt, 0}, {l, 1 << 32, 0},
		// Slots at midnight, and one alone.
		{[]impl.Slot{slot(0, 1), slot(1439, 2)}, 0, 1}, {[]impl.Slot{slot(0, 1), slot(1439, 2)}, 1438, 1}, {[]impl.Slot{slot(0, 1), slot(1439, 2)}, 1439, 2}, {[]impl.Slot{slot(0, 1), slot(1439, 2)}, 1440, 1}, {[]impl.Slot{slot(1, 1), slot(1439, 2)}, 0, 2}, {[]impl.Slot{slot(0, 5)}, 0, 5}, {[]impl.Slot{slot(0, 5)}, 1439, 5}, {[]impl.Slot{slot(1439, 99)}, 0, 99}, {[]impl.Slot{slot(720, 5)}, 719, 5}, {[]impl.Slot{slot(720, 5)}, 1000000, 5},
	}
	for _, c := range cases {
		if got := impl.PlanAt(c.l, c.minute); got != c.want {
			t.Errorf("PlanAt(%v, %d) = %d; want %d", c.l, c.minute, got, c.want)
		}
	}
	source := rand.New(rand.NewSource(264))
	for _, l := range append(someSlots(265, 60), notSlots()...) {
		minutes := []int{-1, 0, 1, 719, 1438, 1439, 1440, 1441, 999999, 1000000, 1000001, math.MinInt, math.MaxInt, source.Intn(1440), source.Intn(1000001)}
		for _, x := range l[:min(len(l), 24)] {
			minutes = append(minutes, x.Minute-1, x.Minute, x.Minute+1, x.Minute+1440*source.Intn(600))
		}
		for _, minute := range minutes {
			if got, want := impl.PlanAt(l, minute), planAt(l, minute); got != want {
				t.Errorf("PlanAt(%v, %d) = %d; want %d", l, minute, got, want)
			}
		}
	}
}

func TestNextChange(t *testing.T) {
	l := fourSlots()
	midnight := []impl.Slot{slot(0, 1), slot(1439, 2)}
	around := []impl.Slot{slot(0, 1), slot(200, 2), slot(1439, 1)}
	cases := []struct {
		l            []impl.Slot
		minute, want int
	}{
		// One minute away, and as far as there are slots.
		{l, 0, 360}, {l, 359, 360}, {l, 360, 540}, {l, 539, 540}, {l, 540, 960}, {l, 1199, 1200}, {l, 1200, 1800}, {l, 1439, 1800}, {l, 1440, 1800}, {l, 1799, 1800}, {l, 1800, 1980},
		// At the end of the range: 1000000 is the minute 640, and the next change of the day is at 960.
		{l, 1000000, 1000320}, {l, 999999, 1000320}, {l, 1000001, -1}, {l, -1, -1}, {l, math.MinInt, -1}, {l, math.MaxInt, -1}, {l, 1 << 32, -1},
		// Slots at midnight.
		{midnight, 0, 1439}, {midnight, 1438, 1439}, {midnight, 1439, 1440}, {midnight, 1440, 2879}, {midnight, 1000000, 1000799}, {[]impl.Slot{slot(0, 7), slot(1, 8)}, 0, 1}, {[]impl.Slot{slot(0, 7), slot(1, 8)}, 1, 1440}, {[]impl.Slot{slot(0, 7), slot(1, 8)}, 1439, 1440}, {[]impl.Slot{slot(0, 7), slot(1, 8)}, 1440, 1441},
		// The same plan in two slots one after the other, and in the last and the first one.
		{[]impl.Slot{slot(100, 1), slot(200, 1), slot(300, 2)}, 100, 300}, {[]impl.Slot{slot(100, 1), slot(200, 1), slot(300, 2)}, 300, 1540}, {around, 0, 200}, {around, 199, 200}, {around, 200, 1439}, {around, 1439, 1640}, {around, 1438, 1439},
		{[]impl.Slot{slot(100, 1), slot(200, 2), slot(300, 1)}, 300, 1640}, {[]impl.Slot{slot(100, 1), slot(200, 2), slot(300, 1)}, 99, 200},
		// One slot alone, and several with one plan.
		{l[:1], 0, -1}, {[]impl.Slot{slot(0, 1)}, 0, -1}, {[]impl.Slot{slot(5, 2), slot(9, 2)}, 0, -1}, {[]impl.Slot{slot(0, 2), slot(9, 2), slot(1439, 2)}, 1439, -1},
	}
	for _, c := range cases {
		if got := impl.NextChange(c.l, c.minute); got != c.want || got != nextChange(c.l, c.minute) {
			t.Errorf("NextChange(%v, %d) = %d; want %d, or %d", c.l, c.minute, got, c.want, nextChange(c.l, c.minute))
		}
	}
	source := rand.New(rand.NewSource(266))
	for _, l := range append(someSlots(267, 100), notSlots()...) {
		minutes := []int{-1, 0, 1, 1438, 1439, 1440, 999999, 1000000, 1000001, math.MinInt, math.MaxInt, source.Intn(1440), source.Intn(1000001)}
		for _, x := range l[:min(len(l), 24)] {
			minutes = append(minutes, x.Minute-1, x.Minute, x.Minute+1440*source.Intn(600))
		}
		for _, minute := range minutes {
			if got, want := impl.NextChange(l, minute), nextChange(l, minute); got != want {
				t.Errorf("NextChange(%v, %d) = %d; want %d", l, minute, got, want)
			}
		}
	}
}

// No change is just DayMinutes away, because a day on which the plan changes has at least two changes. The farthest one is one
// minute nearer: from a change to the one that is the minute before it, on the next day.
func TestChangesOfADayAway(t *testing.T) {
	for _, minute := range []int{0, 1, 700, 1438, 1439} {
		for _, plans := range [][2]int{{1, 2}, {2, 1}, {99, 1}} {
			l := []impl.Slot{slot(minute, plans[0]), slot((minute+1)%1440, plans[1])}
			slices.SortFunc(l, func(a impl.Slot, b impl.Slot) int { return a.Minute - b.Minute })
			// From the one change to the other one, and on.
			if got := impl.NextChange(l, minute); got != minute+1 {
				t.Errorf("NextChange(%v, %d) = %d", l, minute, got)
			}
			if got := impl.NextChange(l, minute+1); got != minute+1440 {
				t.Errorf("NextChange(%v, %d) = %d", l, minute+1, got)
			}
			if got := impl.NextChange(l, minute+1440); got != minute+1441 {
				t.Errorf("NextChange(%v, %d) = %d", l, minute+1440, got)
			}
		}
	}
}

// Promise 29: every minute has one plan, that of the slot before it, each day the same; the minutes of all plans are a day, and
// from one change to the next one the plan stays the same.
func TestEveryMinuteHasOnePlan(t *testing.T) {
	for _, l := range someSlots(268, 20) {
		count := map[int]int{}
		minute, next := 0, impl.NextChange(l, 0)
		for ; minute < 1440; minute++ {
			plan := impl.PlanAt(l, minute)
			count[plan]++
			if plan < 1 || plan > 99 || plan != planAt(l, minute) || plan != impl.PlanAt(l, minute+1440) || plan != impl.PlanAt(l, minute+1440*690) {
				t.Fatalf("PlanAt(%v, %d) = %d", l, minute, plan)
			}
			if changes := minute > 0 && plan != impl.PlanAt(l, minute-1); changes != (minute == next) {
				t.Fatalf("%v: the plan at %d is %d, and NextChange before it %d", l, minute, plan, next)
			}
			if minute == next {
				next = impl.NextChange(l, minute)
			}
		}
		all := 0
		for plan := range 101 {
			n := impl.MinutesOf(l, plan)
			if n != count[plan] {
				t.Fatalf("MinutesOf(%v, %d) = %d; want %d", l, plan, n, count[plan])
			}
			all += n
		}
		if all != 1440 {
			t.Fatalf("%v: %d minutes", l, all)
		}
	}
}

func TestMinutesOf(t *testing.T) {
	l := fourSlots()
	cases := []struct {
		l          []impl.Slot
		plan, want int
	}{
		// In several slots, in one over midnight, and in none.
		{l, 1, 420}, {l, 2, 420}, {l, 3, 600}, {l, 4, 0}, {l, 0, 0}, {l, -1, 0}, {l, 100, 0}, {l, math.MinInt, 0}, {l, math.MaxInt, 0}, {l, 1<<32 + 1, 0},
		{[]impl.Slot{slot(0, 5)}, 5, 1440}, {[]impl.Slot{slot(1439, 5)}, 5, 1440}, {[]impl.Slot{slot(0, 1), slot(1439, 2)}, 1, 1439}, {[]impl.Slot{slot(0, 1), slot(1439, 2)}, 2, 1}, {[]impl.Slot{slot(0, 1), slot(200, 2), slot(1439, 1)}, 1, 201}, {hours(), 1, 300}, {hours(), 5, 240},
		{nil, 1, 0}, {nil, 0, 0},
	}
	for _, c := range cases {
		if got := impl.MinutesOf(c.l, c.plan); got != c.want {
			t.Errorf("MinutesOf(%v, %d) = %d; want %d", c.l, c.plan, got, c.want)
		}
	}
	for _, l := range append(someSlots(269, 100), notSlots()...) {
		for _, plan := range []int{-1, 0, 1, 2, 50, 99, 100} {
			if got, want := impl.MinutesOf(l, plan), minutesOf(l, plan); got != want {
				t.Errorf("MinutesOf(%v, %d) = %d; want %d", l, plan, got, want)
			}
		}
	}
}

func TestPutSlot(t *testing.T) {
	l := fourSlots()
	cases := []struct {
		l    []impl.Slot
		x    impl.Slot
		want []impl.Slot
	}{
		// First, between and last, and alone.
		{l, slot(0, 9), append([]impl.Slot{slot(0, 9)}, l...)}, {l, slot(359, 9), append([]impl.Slot{slot(359, 9)}, l...)}, {l, slot(600, 9), []impl.Slot{l[0], l[1], slot(600, 9), l[2], l[3]}}, {l, slot(1439, 9), append(fourSlots(), slot(1439, 9))}, {nil, slot(0, 1), []impl.Slot{slot(0, 1)}}, {nil, slot(1439, 99), []impl.Slot{slot(1439, 99)}},
		// In place of one, first, between and last, also of one that is just the same.
		{l, slot(360, 9), []impl.Slot{slot(360, 9), l[1], l[2], l[3]}}, {l, slot(540, 9), []impl.Slot{l[0], slot(540, 9), l[2], l[3]}}, {l, slot(1200, 9), []impl.Slot{l[0], l[1], l[2], slot(1200, 9)}}, {l, slot(540, 2), l},
		// There can be 24, and no more.
		{hours()[:23], slot(1439, 9), append(hours()[:23], slot(1439, 9))}, {hours(), slot(60, 9), slices.Concat(hours()[:1], []impl.Slot{slot(60, 9)}, hours()[2:])}, {hours(), slot(61, 9), nil}, {hours(), slot(1439, 9), nil},
		// A slot that is not valid.
		{l, slot(1440, 9), nil}, {l, slot(-1, 9), nil}, {l, slot(600, 0), nil}, {l, slot(600, 100), nil}, {l, slot(540, 0), nil}, {l, slot(540, 100), nil}, {l, slot(math.MinInt, 9), nil}, {l, slot(math.MaxInt, 9), nil}, {l, slot(600, math.MinInt), nil}, {l, slot(600, math.MaxInt), nil}, {l, slot(1<<32+600, 9), nil}, {nil, slot(-1, 9), nil}, {nil, slot(5, 0), nil}, {nil, slot(1440, 1), nil},
		// A list that is not valid, except where the slot comes in place of just the one that is not.
		{[]impl.Slot{slot(9, 1), slot(5, 2)}, slot(7, 3), nil}, {[]impl.Slot{slot(9, 1), slot(5, 2)}, slot(5, 3), nil}, {[]impl.Slot{slot(9, 1), slot(5, 2)}, slot(9, 3), nil}, {[]impl.Slot{slot(5, 1), slot(5, 2)}, slot(5, 3), nil}, {[]impl.Slot{slot(5, 1), slot(5, 2)}, slot(9, 3), nil}, {[]impl.Slot{slot(5, 1), slot(1440, 2)}, slot(9, 3), nil}, {[]impl.Slot{slot(5, 1), slot(1440, 2)}, slot(1440, 3), nil}, {[]impl.Slot{slot(5, 0), slot(9, 2)}, slot(7, 3), nil}, {[]impl.Slot{slot(5, 0), slot(9, 2)}, slot(5, 3), []impl.Slot{slot(5, 3), slot(9, 2)}}, {[]impl.Slot{slot(5, 1), slot(9, 200)}, slot(9, 3), []impl.Slot{slot(5, 1), slot(9, 3)}}, {append(hours(), slot(1439, 1)), slot(0, 9), nil},
	}
	for _, c := range cases {
		want := c.want
		if want == nil {
			want = c.l
		}
		if got, ok := impl.PutSlot(c.l, c.x); ok != (c.want != nil) || !slices.Equal(got, want) {
			t.Errorf("PutSlot(%v, %v) = %v, %v; want %v", c.l, c.x, got, ok, want)
		}
	}
	source := rand.New(rand.NewSource(270))
	for _, l := range append(someSlots(271, 200), notSlots()...) {
		for range 8 {
			x := slot(source.Intn(1444)-2, source.Intn(102)-1)
			if len(l) > 0 && source.Intn(2) == 0 {
				x.Minute = l[source.Intn(len(l))].Minute
			}
			want, can := putSlot(l, x)
			if got, ok := impl.PutSlot(l, x); ok != can || !slices.Equal(got, want) {
				t.Errorf("PutSlot(%v, %v) = %v, %v; want %v, %v", l, x, got, ok, want, can)
			}
		}
	}
}

func TestSlotsAreNewMemory(t *testing.T) {
	for _, l := range append(someSlots(272, 60), notSlots()...) {
		wantUntouchedList(t, "a function of slots", l, slot(1439, 7), func(l []impl.Slot) {
			impl.AreSlots(l)
			impl.PlanAt(l, 600)
			impl.NextChange(l, 600)
			impl.MinutesOf(l, 1)
			for _, x := range []impl.Slot{slot(0, 9), slot(360, 9), slot(600, 9), slot(1439, 9), slot(1440, 9)} {
				wantOwnList(t, "PutSlot", slot(77, 77), func() []impl.Slot { more, _ := impl.PutSlot(l, x); return more })
			}
		})
	}
}
