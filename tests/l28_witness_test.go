package tests

import (
	"math"
	"math/rand"
	"slices"
	"testing"

	"loop.example/g03006/impl"
)

// shownAt is the oracle for ShownAt.
func shownAt(l []impl.Entry, second int) ([]int, bool) {
	if !isRecord(l) {
		return nil, false
	}
	var lights []int
	found := false
	for _, e := range l {
		if e.Second <= second {
			lights, found = e.Lights, true
		}
	}
	return lights, found
}

// lightShown is the oracle for LightShown.
func lightShown(l []impl.Entry, index int, second int) int {
	lights, ok := shownAt(l, second)
	if !ok || index < 0 || index >= len(lights) {
		return -1
	}
	return lights[index]
}

// greenSince is the oracle for GreenSince: it goes through the entries from the first one on.
func greenSince(l []impl.Entry, index int, second int) int {
	if lightShown(l, index, second) != 1 {
		return -1
	}
	since := -1
	for _, e := range l {
		if e.Second > second {
			break
		}
		if e.Lights[index] != 1 {
			since = -1
		} else if since < 0 {
			since = e.Second
		}
	}
	return second - since
}

// shownBetween is the oracle for ShownBetween: it looks at both seconds and at each one between at which something changes.
func shownBetween(l []impl.Entry, index int, from int, until int) []int {
	var lights []int
	if until < from {
		return nil
	}
	seconds := []int{from, until}
	for _, e := range l {
		if e.Second >= from && e.Second <= until {
			seconds = append(seconds, e.Second)
		}
	}
	for light := range 3 {
		if slices.ContainsFunc(seconds, func(second int) bool { return lightShown(l, index, second) == light }) {
			lights = append(lights, light)
		}
	}
	return lights
}

// firstUnsafe is the oracle for FirstUnsafe.
func firstUnsafe(p []impl.Path, l []impl.Entry) int {
	if !isRecord(l) {
		return -1
	}
	for _, e := range l {
		if !impl.ArePaths(p) || !areSafe(p, e.Lights) {
			return e.Second
		}
	}
	return -1
}

// countChanges is the oracle for CountChanges.
func countChanges(l []impl.Entry, index int) int {
	count := 0
	if !isRecord(l) || len(l) == 0 || index < 0 || index >= len(l[0].Lights) {
		return 0
	}
	for i := 1; i < len(l); i++ {
		if l[i].Lights[index] != l[i-1].Lights[index] {
			count++
		}
	}
	return count
}

// oneLight is a record of one light: green from the first entry on, then again with a break, and for several entries.
func oneLight() []impl.Entry {
	return sealedUp(shown(3, 1), shown(4, 1), shown(9, 0), shown(11, 1), shown(12, 2), shown(20, 1), shown(21, 1), shown(30, 1), shown(31, 0))
}

// secondsOf are seconds before, at, between and behind the entries.
func secondsOf(l []impl.Entry) []int {
	seconds := []int{math.MinInt, -1, 0, 1, 500000, 1000000, 1000001, math.MaxInt}
	for _, e := range l[:min(len(l), 12)] {
		seconds = append(seconds, e.Second-1, e.Second, e.Second+1, e.Second+4)
	}
	return seconds
}

func TestShownAt(t *testing.T) {
	l := night()
	cases := []struct {
		second int
		want   []int
		ok     bool
	}{
		// Before the first entry, just at an entry, one before and one behind it, and behind the last one.
		{4, nil, false}, {0, nil, false}, {-1, nil, false}, {math.MinInt, nil, false}, {5, []int{0, 0}, true}, {6, []int{0, 0}, true}, {9, []int{0, 0}, true}, {10, []int{1, 0}, true}, {11, []int{1, 0}, true}, {19, []int{1, 0}, true}, {20, []int{1, 2}, true}, {23, []int{1, 2}, true}, {24, []int{2, 0}, true}, {29, []int{2, 0}, true}, {30, []int{0, 1}, true}, {31, []int{0, 1}, true}, {1000000, []int{0, 1}, true}, {1000001, []int{0, 1}, true}, {math.MaxInt, []int{0, 1}, true},
	}
	for _, c := range cases {
		if got, ok := impl.ShownAt(l, c.second); ok != c.ok || !slices.Equal(got, c.want) {
			t.Errorf("ShownAt(%v, %d) = %v, %v; want %v, %v", l, c.second, got, ok, c.want, c.ok)
		}
	}
	// Nothing can be what was shown.
	if got, ok := impl.ShownAt(sealedUp(shown(5)), 7); !ok || len(got) != 0 {
		t.Error(got, ok)
	}
	for _, l := range append(someRecords(253, 100), notRecords()...) {
		for _, second := range secondsOf(l) {
			want, can := shownAt(l, second)
			if got, ok := impl.ShownAt(l, second); ok != can || !slices.Equal(got, want) {
				t.Errorf("ShownAt(%v, %d) = %v, %v; want %v, %v", l, second, got, ok, want, can)
			}
		}
	}
}

func TestLightShown(t *testing.T) {
	l := night()
	cases := [][3]int{
		{0, 4, -1}, {0, 5, 0}, {0, 12, 1}, {1, 12, 0}, {1, 22, 2}, {0, 24, 2}, {1, 999, 1}, {0, math.MaxInt, 0}, {0, math.MinInt, -1}, {0, -1, -1},
		// The first, the last, one more, and below 0.
		{-1, 22, -1}, {2, 22, -1}, {3, 22, -1}, {math.MinInt, 22, -1}, {math.MaxInt, 22, -1}, {1 << 32, 22, -1}, {-1, 4, -1}, {2, 4, -1},
	}
	for _, c := range cases {
		if got := impl.LightShown(l, c[0], c[1]); got != c[2] {
			t.Errorf("LightShown(%v, %d, %d) = %d; want %d", l, c[0], c[1], got, c[2])
		}
	}
	for _, l := range append(someRecords(254, 50), notRecords()...) {
		for _, second := range secondsOf(l) {
			for _, index := range []int{-1, 0, 1, 2, 11, 12, 13} {
				if got, want := impl.LightShown(l, index, second), lightShown(l, index, second); got != want {
					t.Errorf("LightShown(%v, %d, %d) = %d; want %d", l, index, second, got, want)
				}
			}
		}
	}
}

func TestGreenSince(t *testing.T) {
	l := oneLight()
	cases := [][3]int{
		// Green from the first entry on.
		{0, 2, -1}, {0, 3, 0}, {0, 4, 1}, {0, 8, 5}, {0, 9, -1}, {0, 10, -1},
		// Green again behind a break, and behind LtClear.
		{0, 11, 0}, {0, 12, -1}, {0, 19, -1}, {0, 20, 0}, {0, 21, 1}, {0, 29, 9}, {0, 30, 10}, {0, 31, -1}, {0, 1000, -1}, {0, math.MaxInt, -1}, {0, math.MinInt, -1}, {0, -1, -1},
		// No such light.
		{-1, 25, -1}, {1, 25, -1}, {math.MinInt, 25, -1}, {math.MaxInt, 25, -1}, {1 << 32, 25, -1},
	}
	for _, c := range cases {
		if got := impl.GreenSince(l, c[0], c[1]); got != c[2] || got != greenSince(l, c[0], c[1]) {
			t.Errorf("GreenSince(%v, %d, %d) = %d; want %d", l, c[0], c[1], got, c[2])
		}
	}
	// What changes is another light; and the last entry is green for ever.
	if l := night(); impl.GreenSince(l, 0, 23) != 13 || impl.GreenSince(l, 1, 35) != 5 || impl.GreenSince(l, 1, math.MaxInt) != math.MaxInt-30 || impl.GreenSince(l, 0, 24) != -1 {
		t.Error(impl.GreenSince(l, 0, 23), impl.GreenSince(l, 1, 35), impl.GreenSince(l, 1, math.MaxInt), impl.GreenSince(l, 0, 24))
	}
	for _, l := range append(someRecords(255, 80), notRecords()...) {
		for _, second := range secondsOf(l) {
			for _, index := range []int{-1, 0, 1, 11, 12} {
				if got, want := impl.GreenSince(l, index, second), greenSince(l, index, second); got != want {
					t.Errorf("GreenSince(%v, %d, %d) = %d; want %d", l, index, second, got, want)
				}
			}
		}
	}
}

func TestShownBetween(t *testing.T) {
	l := night()
	cases := []struct {
		index, from, until int
		want               []int
	}{
		// Over several entries, and within one.
		{0, 6, 25, []int{0, 1, 2}}, {0, 10, 23, []int{1}}, {0, 11, 12, []int{1}}, {0, 9, 10, []int{0, 1}}, {0, 23, 24, []int{1, 2}}, {0, 24, 30, []int{0, 2}}, {0, 24, 29, []int{2}}, {0, 30, 1000, []int{0}}, {1, 5, 19, []int{0}}, {1, 20, 30, []int{0, 1, 2}}, {1, 20, 24, []int{0, 2}},
		// The same second for both.
		{0, 10, 10, []int{1}}, {0, 9, 9, []int{0}}, {0, 5, 5, []int{0}}, {0, 4, 4, nil}, {0, 31, 31, []int{0}}, {0, math.MaxInt, math.MaxInt, []int{0}},
		// Until before from, also within one entry.
		{0, 12, 11, nil}, {0, 25, 6, nil}, {0, 5, 4, nil}, {0, math.MaxInt, math.MinInt, nil}, {0, 40, 39, nil},
		// From before the first entry.
		{1, 0, 4, nil}, {1, 0, 5, []int{0}}, {0, -5, 10, []int{0, 1}}, {0, math.MinInt, math.MaxInt, []int{0, 1, 2}}, {0, math.MinInt, 4, nil}, {0, math.MinInt, math.MinInt, nil},
		// No such light.
		{2, 0, 99, nil}, {5, 0, 99, nil}, {-1, 0, 99, nil}, {math.MinInt, 0, 99, nil}, {math.MaxInt, 0, 99, nil}, {1 << 32, 0, 99, nil},
	}
	for _, c := range cases {
		if got := impl.ShownBetween(l, c.index, c.from, c.until); !slices.Equal(got, c.want) || !slices.Equal(got, shownBetween(l, c.index, c.from, c.until)) {
			t.Errorf("ShownBetween(%v, %d, %d, %d) = %v; want %v", l, c.index, c.from, c.until, got, c.want)
		}
	}
	source := rand.New(rand.NewSource(256))
	for _, l := range append(someRecords(257, 200), notRecords()...) {
		seconds := secondsOf(l)
		for range 20 {
			index, from, until := source.Intn(14)-1, seconds[source.Intn(len(seconds))], seconds[source.Intn(len(seconds))]
			if len(l) > 0 && len(l[0].Lights) > 0 && source.Intn(4) > 0 {
				index = source.Intn(len(l[0].Lights))
			}
			if got, want := impl.ShownBetween(l, index, from, until), shownBetween(l, index, from, until); !slices.Equal(got, want) {
				t.Errorf("ShownBetween(%v, %d, %d, %d) = %v; want %v", l, index, from, until, got, want)
			}
		}
	}
}

// Promise 28: what was shown between two seconds has what was shown at both, and at each one between, and nothing else.
func TestWhatWasShownBetweenHasWhatWasShownAtBoth(t *testing.T) {
	source := rand.New(rand.NewSource(258))
	met := 0
	for _, l := range someRecords(259, 300) {
		if len(l) == 0 || len(l[0].Lights) == 0 {
			continue
		}
		index := source.Intn(len(l[0].Lights))
		from := l[source.Intn(len(l))].Second - 3 + source.Intn(6)
		until := from + source.Intn(60)
		between := impl.ShownBetween(l, index, from, until)
		var seen []int
		for second := from; second <= until; second++ {
			if light := impl.LightShown(l, index, second); light >= 0 {
				seen = append(seen, light)
				if !slices.Contains(between, light) {
					t.Fatalf("ShownBetween(%v, %d, %d, %d) = %v, but %d shows %d", l, index, from, until, between, second, light)
				}
			}
			lights, ok := impl.ShownAt(l, second)
			if ok && lights[index] != impl.LightShown(l, index, second) || ok != (impl.LightShown(l, index, second) >= 0) {
				t.Fatalf("ShownAt(%v, %d) = %v, %v", l, second, lights, ok)
			}
		}
		slices.Sort(seen)
		if !slices.Equal(between, slices.Compact(seen)) {
			t.Fatalf("ShownBetween(%v, %d, %d, %d) = %v; want %v", l, index, from, until, between, seen)
		}
		met += len(between)
	}
	if met < 150 {
		t.Error(met)
	}
}

func TestFirstUnsafe(t *testing.T) {
	two, l := cross()[:2], night()
	four := sealedUp(shown(3, 1, 0, 0, 0), shown(5, 0, 1, 1, 1), shown(9, 0, 2, 2, 2))
	cases := []struct {
		p    []impl.Path
		l    []impl.Entry
		want int
	}{
		// Not safe first, between and last, and never.
		{two, l, 20}, {two, l[:2], -1}, {two, l[:3], 20}, {two, sealedUp(shown(5, 1, 1), shown(10, 1, 0), shown(11, 2, 2)), 5}, {two, sealedUp(shown(5, 0, 1), shown(10, 1, 0), shown(11, 2, 1)), 11}, {two, sealedUp(shown(0, 1, 2)), 0}, {cross(), four, -1}, {cross(), sealedUp(append(copyRecord(four), shown(1000000, 1, 0, 0, 1))...), 1000000},
		// Fewer lights than paths, and more; no lights and no paths.
		{cross(), l, 5}, {two[:1], l, 5}, {nil, l, 5}, {two, four, 3}, {nil, sealedUp(shown(7), shown(8)), -1}, {two, sealedUp(shown(7)), 7},
		{two, nil, -1}, {nil, nil, -1},
		// Paths for which ArePaths is false.
		{[]impl.Path{two[1], two[0]}, l, 5}, {[]impl.Path{two[0], {}}, l, 5}, {[]impl.Path{two[0], two[0]}, nil, -1},
		// Lists that are no record.
		{two, l[1:], -1}, {cross(), []impl.Entry{shown(5, 1, 1, 1, 1)}, -1}, {two, sealedUp(shown(5, 3, 3)), -1},
	}
	for _, c := range cases {
		if got := impl.FirstUnsafe(c.p, c.l); got != c.want || got != firstUnsafe(c.p, c.l) {
			t.Errorf("FirstUnsafe(%v, %v) = %d; want %d", c.p, c.l, got, c.want)
		}
	}
	for _, l := range append(someRecords(260, 300), notRecords()...) {
		for _, p := range [][]impl.Path{nil, two[:1], two, cross(), walks(1, 12), {two[1], two[0]}, friends()} {
			if got, want := impl.FirstUnsafe(p, l), firstUnsafe(p, l); got != want {
				t.Errorf("FirstUnsafe(%v, %v) = %d; want %d", p, l, got, want)
			}
		}
	}
	for _, p := range notCrossings() {
		if got := impl.FirstUnsafe(p, sealedUp(shown(4, make([]int, min(len(p), 12))...))); got != 4 {
			t.Errorf("FirstUnsafe(%v) = %d", p, got)
		}
	}
}

func TestCountChanges(t *testing.T) {
	cases := []struct {
		l           []impl.Entry
		index, want int
	}{
		{night(), 0, 3}, {night(), 1, 3}, {oneLight(), 0, 5}, {fullRecord(), 0, 59}, {night()[:1], 0, 0}, {nil, 0, 0},
		// Entries that change another light only.
		{sealedUp(shown(1, 0, 1), shown(2, 1, 1), shown(3, 2, 1)), 1, 0}, {sealedUp(shown(1, 0, 1), shown(2, 1, 1), shown(3, 2, 1)), 0, 2}, {sealedUp(shown(1, 0, 1), shown(2, 0, 1)), 0, 0}, {sealedUp(shown(1, 0), shown(2, 1), shown(3, 0)), 0, 2},
		{night(), -1, 0}, {night(), 2, 0}, {night(), math.MinInt, 0}, {night(), math.MaxInt, 0}, {night(), 1 << 32, 0}, {sealedUp(shown(1), shown(2)), 0, 0}, {night()[1:], 0, 0}, {nil, -1, 0},
	}
	for _, c := range cases {
		if got := impl.CountChanges(c.l, c.index); got != c.want || got != countChanges(c.l, c.index) {
			t.Errorf("CountChanges(%v, %d) = %d; want %d", c.l, c.index, got, c.want)
		}
	}
	for _, l := range append(someRecords(261, 200), notRecords()...) {
		for index := -1; index <= 13; index++ {
			if got, want := impl.CountChanges(l, index), countChanges(l, index); got != want {
				t.Errorf("CountChanges(%v, %d) = %d; want %d", l, index, got, want)
			}
		}
	}
}

func TestWitnessesAreNewMemory(t *testing.T) {
	for _, l := range append(someRecords(262, 40), notRecords()...) {
		wantUntouchedRecord(t, "a witness", l, func(l []impl.Entry) {
			wantUntouchedList(t, "FirstUnsafe", cross(), car(5, 0, 1), func(p []impl.Path) { impl.FirstUnsafe(p, l) })
			for _, second := range []int{0, 5, 10, 12, 30, 1000000} {
				impl.LightShown(l, 0, second)
				impl.GreenSince(l, 0, second)
				wantOwnList(t, "ShownAt", 7, func() []int { lights, _ := impl.ShownAt(l, second); return lights })
				wantOwnList(t, "ShownBetween", 7, func() []int { return impl.ShownBetween(l, 0, 0, second) })
			}
			impl.CountChanges(l, 0)
		})
	}
}
