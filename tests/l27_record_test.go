package tests

import (
	"math"
	"math/rand"
	"slices"
	"testing"

	"loop.example/g03006/impl"
)

// shown is an entry without its seal.
func shown(second int, lights ...int) impl.Entry { return impl.Entry{Second: second, Lights: lights} }

// sealOf is the oracle for SealOf.
func sealOf(before int, second int, lights []int) int {
	return polynomial(append([]int{before, second}, lights...))
}

// sealedUp returns the entries with the seals that they should have, whether they can stand in a record or not.
func sealedUp(entries ...impl.Entry) []impl.Entry {
	var l []impl.Entry
	seal := 0
	for _, e := range entries {
		seal = sealOf(seal, e.Second, e.Lights)
		l = append(l, impl.Entry{Second: e.Second, Lights: slices.Clone(e.Lights), Seal: seal})
	}
	return l
}

func sameEntries(a []impl.Entry, b []impl.Entry) bool {
	return slices.EqualFunc(a, b, func(e impl.Entry, f impl.Entry) bool {
		return e.Second == f.Second && e.Seal == f.Seal && slices.Equal(e.Lights, f.Lights)
	})
}

// copyRecord returns the entries in other memory.
func copyRecord(l []impl.Entry) []impl.Entry {
	var list []impl.Entry
	for _, e := range l {
		list = append(list, impl.Entry{Second: e.Second, Lights: slices.Clone(e.Lights), Seal: e.Seal})
	}
	return list
}

// isRecord is the oracle for IsRecord.
func isRecord(l []impl.Entry) bool {
	if len(l) > 60 || !sameEntries(l, sealedUp(l...)) {
		return false
	}
	for i, e := range l {
		if e.Second < 0 || e.Second > 1000000 || len(e.Lights) > 12 || len(e.Lights) != len(l[0].Lights) || i > 0 && e.Second <= l[i-1].Second {
			return false
		}
		for _, light := range e.Lights {
			if light < 0 || light > 2 {
				return false
			}
		}
	}
	return true
}

// addEntry is the oracle for AddEntry.
func addEntry(l []impl.Entry, second int, lights []int) ([]impl.Entry, bool) {
	seal := 0
	if len(l) > 0 {
		seal = l[len(l)-1].Seal
	}
	more := append(copyRecord(l), impl.Entry{Second: second, Lights: lights, Seal: sealOf(seal, second, lights)})
	if !isRecord(more) {
		return l, false
	}
	return more, true
}

// noteLights is the oracle for NoteLights.
func noteLights(l []impl.Entry, second int, lights []int) ([]impl.Entry, bool) {
	if len(l) > 0 && slices.Equal(l[len(l)-1].Lights, lights) {
		return l, isRecord(l) && second > l[len(l)-1].Second && second >= 0 && second <= 1000000
	}
	return addEntry(l, second, lights)
}

// night is the record of most examples.
func night() []impl.Entry {
	return sealedUp(shown(5, 0, 0), shown(10, 1, 0), shown(20, 1, 2), shown(24, 2, 0), shown(30, 0, 1))
}

// fullRecord has MaxEntries entries, at each second from 0 on.
func fullRecord() []impl.Entry {
	var l []impl.Entry
	for i := range 60 {
		l = append(l, shown(i, i%3))
	}
	return sealedUp(l...)
}

// drawRecord returns a record; each entry shows other lights than the one before, most often.
func drawRecord(source *rand.Rand) []impl.Entry {
	var l []impl.Entry
	count := []int{0, 1, 12, source.Intn(13), 2}[source.Intn(5)]
	second := []int{0, source.Intn(1000), 999000}[source.Intn(3)]
	for range []int{0, 1, 60, source.Intn(61), source.Intn(8)}[source.Intn(5)] {
		lights := make([]int, count)
		for i := range lights {
			lights[i] = source.Intn(3)
		}
		l = append(l, shown(second, lights...))
		second += 1 + []int{0, source.Intn(10)}[source.Intn(2)]
	}
	return sealedUp(l...)
}

// someRecords are lists for which IsRecord holds.
func someRecords(seed int64, count int) [][]impl.Entry {
	source := rand.New(rand.NewSource(seed))
	list := [][]impl.Entry{
		nil, night(), night()[:1], fullRecord(), fullRecord()[:59], sealedUp(shown(0)), sealedUp(shown(0), shown(1), shown(1000000)), sealedUp(shown(1000000, 2)), sealedUp(shown(0, 0, 1, 2, 0, 1, 2, 0, 1, 2, 0, 1, 2)),
		// The same lights again.
		sealedUp(shown(3, 1, 0), shown(4, 1, 0), shown(9, 1, 0)),
	}
	for range count {
		list = append(list, drawRecord(source))
	}
	return list
}

// withEntry returns a copy of l with another entry at an index, as it is.
func withEntry(l []impl.Entry, i int, e impl.Entry) []impl.Entry {
	changed := copyRecord(l)
	changed[i] = e
	return changed
}

// notRecords are lists of entries with one that cannot be there.
func notRecords() [][]impl.Entry {
	l := night()
	list := [][]impl.Entry{
		{shown(5, 0, 0)}, {{}}, sealedUp(slices.Concat(fullRecord(), []impl.Entry{shown(60, 1)})...), sealedUp(shown(5, 1), shown(5, 0)), sealedUp(shown(5, 1), shown(5, 1)), sealedUp(shown(5, 1), shown(4, 0)), sealedUp(shown(5, 1), shown(9, 0), shown(8, 2)), sealedUp(shown(9, 1), shown(5, 0), shown(10, 2)), make([]impl.Entry, 1000),
		sealedUp(shown(5, make([]int, 13)...)), sealedUp(shown(5, make([]int, 1000)...)), sealedUp(shown(5, make([]int, 13)...), shown(6, make([]int, 13)...)),
		// One light more than the others, or one less.
		sealedUp(shown(5, 0, 0), shown(6, 1, 0, 0)), sealedUp(shown(5, 0, 0, 0), shown(6, 1, 0)), sealedUp(shown(5), shown(6, 0)), sealedUp(shown(5, 0), shown(6)), sealedUp(shown(5, 0), shown(6, 1), shown(7, 0, 1), shown(8, 1, 0)), sealedUp(shown(5, 0), shown(6, 1), shown(7), shown(8, 1)),
		// The seals do not begin with 0, or an entry is missing.
		l[1:], slices.Concat(l[:2], l[3:]), {l[0], l[2], l[1], l[3]},
	}
	for _, n := range []int{-1, 1000001, math.MinInt, math.MaxInt, 1<<32 + 5} {
		list = append(list, sealedUp(shown(n, 1)), sealedUp(shown(5, 1), shown(n, 0)), sealedUp(shown(n, 1), shown(50, 0)))
	}
	for _, n := range []int{-1, 3, 4, math.MinInt, math.MaxInt, 1 << 32, 1<<32 + 1} {
		list = append(list, sealedUp(shown(5, n)), sealedUp(shown(5, n, 0, 1)), sealedUp(shown(5, 0, n, 1)), sealedUp(shown(5, 0, 1, n)), sealedUp(shown(5, 0, 1), shown(6, 1, n)), sealedUp(shown(5, n, 1), shown(6, 1, 1), shown(7, 0, 0)))
	}
	for i, e := range l {
		for _, seal := range []int{e.Seal + 1, e.Seal - 1, 0, -1, e.Seal + impl.Modulus, e.Seal - impl.Modulus, math.MinInt, math.MaxInt, e.Seal + 1<<32} {
			list = append(list, withEntry(l, i, impl.Entry{Second: e.Second, Lights: e.Lights, Seal: seal}))
		}
		// Under the old seal there is another second, or another light.
		list = append(list, withEntry(l, i, impl.Entry{Second: e.Second + 1, Lights: e.Lights, Seal: e.Seal}))
		for j := range e.Lights {
			list = append(list, withEntry(l, i, impl.Entry{Second: e.Second, Lights: withNumber(e.Lights, j, (e.Lights[j]+1)%3), Seal: e.Seal}))
		}
	}
	return list
}

func TestSealOf(t *testing.T) {
	cases := []struct {
		before, second int
		lights         []int
	}{
		{0, 5, []int{1, 0}}, {0, 0, nil}, {1, 0, nil}, {0, 1, nil}, {0, 0, []int{0}}, {7, 5, []int{0, 1}}, {2147483646, 1000000, []int{2, 2, 2}}, {2147483647, 5, []int{1, 0}}, {-1, -5, []int{-1}}, {math.MinInt, math.MaxInt, []int{math.MinInt, math.MaxInt}}, {0, 5, make([]int, 1000)},
	}
	seals := map[int]int{}
	for i, c := range cases {
		got := impl.SealOf(c.before, c.second, c.lights)
		if got != sealOf(c.before, c.second, c.lights) || got != impl.Hash(slices.Concat([]int{c.before, c.second}, c.lights)) {
			t.Errorf("SealOf(%d, %d, %v) = %d", c.before, c.second, c.lights, got)
		}
		if j, met := seals[got]; met {
			// A hash takes numbers modulo Modulus.
			if c.before != impl.Modulus || cases[j].before != 0 {
				t.Errorf("SealOf(%v) and SealOf(%v) are the same", cases[j], c)
			}
			continue
		}
		seals[got] = i
	}
}

func TestIsRecord(t *testing.T) {
	if impl.MaxEntries != 60 {
		t.Error(impl.MaxEntries)
	}
	for _, l := range someRecords(242, 200) {
		if !impl.IsRecord(l) || !isRecord(l) {
			t.Errorf("IsRecord(%v) is false", l)
		}
	}
	for _, l := range notRecords() {
		if impl.IsRecord(l) || isRecord(l) {
			t.Errorf("IsRecord(%v) is true", l)
		}
	}
	for _, n := range append(around(0, 12), 999999, 1000000, 1000001) {
		for _, l := range [][]impl.Entry{sealedUp(shown(n, 1)), sealedUp(shown(5, n)), sealedUp(shown(5, 1), shown(n, 0)), sealedUp(shown(5, 1, 0), shown(6, 0, n))} {
			if got := impl.IsRecord(l); got != isRecord(l) {
				t.Errorf("IsRecord(%v) = %v", l, got)
			}
		}
		if n >= 0 && n < 100 {
			if l := sealedUp(shown(5, make([]int, n)...), shown(6, make([]int, n)...)); impl.IsRecord(l) != (n <= 12) {
				t.Errorf("IsRecord with %d lights is %v", n, impl.IsRecord(l))
			}
		}
	}
}

func TestAddEntry(t *testing.T) {
	l := night()
	cases := []struct {
		l      []impl.Entry
		second int
		lights []int
		ok     bool
	}{
		{nil, 5, []int{1, 0}, true}, {nil, 0, nil, true}, {nil, 1000000, make([]int, 12), true}, {l, 31, []int{1, 1}, true}, {l, 1000000, []int{0, 1}, true}, {fullRecord()[:59], 59, []int{1}, true},
		// The lights of the last entry again, which AddEntry appends.
		{l, 31, []int{0, 1}, true},
		{l, 30, []int{1, 1}, false}, {l, 29, []int{1, 1}, false}, {l, 1000001, []int{1, 1}, false}, {nil, 1000001, []int{1, 1}, false}, {nil, -1, []int{1, 1}, false}, {l, -1, []int{1, 1}, false}, {l, math.MinInt, []int{1, 1}, false}, {l, math.MaxInt, []int{1, 1}, false}, {l, 1<<32 + 31, []int{1, 1}, false},
		{l, 31, []int{1}, false}, {l, 31, []int{1, 1, 1}, false}, {l, 31, nil, false}, {nil, 5, make([]int, 13), false}, {nil, 5, make([]int, 10000), false}, {nil, 5, []int{3}, false}, {nil, 5, []int{-1}, false}, {l, 31, []int{1, 3}, false}, {l, 31, []int{-1, 1}, false}, {l, 31, []int{math.MinInt, math.MaxInt}, false},
		// A record that is full, and lists that are no record.
		{fullRecord(), 60, []int{1}, false}, {l[1:], 31, []int{1, 1}, false}, {[]impl.Entry{shown(5, 0, 0)}, 31, []int{1, 1}, false},
	}
	for _, c := range cases {
		want := c.l
		if c.ok {
			want = sealedUp(append(copyRecord(c.l), shown(c.second, c.lights...))...)
		}
		if got, ok := impl.AddEntry(c.l, c.second, c.lights); ok != c.ok || !sameEntries(got, want) {
			t.Errorf("AddEntry(%v, %d, %v) = %v, %v; want %v, %v", c.l, c.second, c.lights, got, ok, want, c.ok)
		}
	}
	wantAsDrawn(t, "AddEntry", 243, impl.AddEntry, addEntry)
}

// appending is a function that appends an entry to a record, or its oracle.
type appending func(l []impl.Entry, second int, lights []int) ([]impl.Entry, bool)

// wantAsDrawn holds a function against its oracle, for records and for lists that are none.
func wantAsDrawn(t *testing.T, name string, seed int64, call appending, oracle appending) {
	t.Helper()
	source := rand.New(rand.NewSource(seed))
	for _, l := range append(someRecords(seed+1, 200), notRecords()...) {
		for range 4 {
			second, lights := drawEntry(source, l)
			want, can := oracle(l, second, lights)
			if got, ok := call(l, second, lights); ok != can || !sameEntries(got, want) {
				t.Errorf("%s(%v, %d, %v) = %v, %v; want %v, %v", name, l, second, lights, got, ok, want, can)
			}
		}
	}
}

// drawEntry returns a second near that of the last entry, and lights that are often as many as its own, or just the same.
func drawEntry(source *rand.Rand, l []impl.Entry) (int, []int) {
	second, lights := source.Intn(50)-5, make([]int, source.Intn(14))
	if len(l) > 0 {
		last := l[len(l)-1]
		second = last.Second + []int{0, 1, 1, 2, -1, source.Intn(20)}[source.Intn(6)]
		lights = slices.Clone(last.Lights)
		if len(lights) > 20 {
			lights = lights[:2]
		}
	}
	for i := range lights {
		if source.Intn(3) == 0 {
			lights[i] = []int{0, 1, 2, 0, 1, 2, 3, -1}[source.Intn(8)]
		}
	}
	return second, lights
}

func TestNoteLights(t *testing.T) {
	l, full := night(), fullRecord()
	odd := sealedUp(shown(5, 3))
	cases := []struct {
		l      []impl.Entry
		second int
		lights []int
		want   []impl.Entry
		ok     bool
	}{
		// The first entry, other lights, and those of the last entry at a later second.
		{nil, 5, []int{1, 0}, sealedUp(shown(5, 1, 0)), true}, {nil, 0, nil, sealedUp(shown(0)), true}, {l, 31, []int{1, 1}, sealedUp(append(night(), shown(31, 1, 1))...), true}, {l, 31, []int{0, 1}, l, true}, {l, 1000000, []int{0, 1}, l, true}, {l, 1000000, []int{1, 1}, sealedUp(append(night(), shown(1000000, 1, 1))...), true}, {sealedUp(shown(0)), 1, nil, sealedUp(shown(0)), true},
		// At the same second, at one before, and beyond 1000000.
		{l, 30, []int{0, 1}, l, false}, {l, 29, []int{0, 1}, l, false}, {l, 0, []int{0, 1}, l, false}, {l, -1, []int{0, 1}, l, false}, {l, 1000001, []int{0, 1}, l, false}, {l, math.MinInt, []int{0, 1}, l, false}, {l, math.MaxInt, []int{0, 1}, l, false}, {l, 1<<32 + 31, []int{0, 1}, l, false}, {sealedUp(shown(1000000, 1)), 1000001, []int{1}, sealedUp(shown(1000000, 1)), false}, {l, 30, []int{1, 1}, l, false}, {l, 1000001, []int{1, 1}, l, false}, {l, -1, []int{1, 1}, l, false}, {nil, -1, []int{1}, nil, false}, {nil, 1000001, []int{1}, nil, false},
		// Lights that cannot be.
		{l, 31, []int{0}, l, false}, {l, 31, []int{0, 1, 0}, l, false}, {l, 31, []int{0, 3}, l, false}, {l, 31, []int{0, -1}, l, false}, {nil, 5, []int{3}, nil, false}, {nil, 5, make([]int, 13), nil, false},
		// A record that is full has room for the same lights only.
		{full, 60, []int{2}, full, true}, {full, 60, []int{1}, full, false}, {full, 59, []int{2}, full, false},
		// Lists that are no record, with the lights of the last entry and with others.
		{l[1:], 31, []int{0, 1}, l[1:], false}, {l[1:], 31, []int{1, 1}, l[1:], false}, {odd, 6, []int{3}, odd, false}, {odd, 6, []int{1}, odd, false}, {[]impl.Entry{shown(5, 0)}, 6, []int{0}, []impl.Entry{shown(5, 0)}, false},
	}
	for _, c := range cases {
		if got, ok := impl.NoteLights(c.l, c.second, c.lights); ok != c.ok || !sameEntries(got, c.want) {
			t.Errorf("NoteLights(%v, %d, %v) = %v, %v; want %v, %v", c.l, c.second, c.lights, got, ok, c.want, c.ok)
		}
	}
	wantAsDrawn(t, "NoteLights", 245, impl.NoteLights, noteLights)
}

func TestLastSeal(t *testing.T) {
	for _, l := range append(someRecords(247, 50), notRecords()...) {
		want := 0
		if len(l) > 0 {
			want = l[len(l)-1].Seal
		}
		if got := impl.LastSeal(l); got != want {
			t.Errorf("LastSeal(%v) = %d; want %d", l, got, want)
		}
	}
	for _, seal := range []int{0, -7, math.MinInt, math.MaxInt} {
		if got := impl.LastSeal([]impl.Entry{{Seal: 5}, {Seal: seal}}); got != seal {
			t.Errorf("LastSeal = %d; want %d", got, seal)
		}
	}
}

func TestSameUntil(t *testing.T) {
	l := night()
	seals := func(list ...int) []impl.Entry {
		var l []impl.Entry
		for i, seal := range list {
			l = append(l, impl.Entry{Second: i, Seal: seal})
		}
		return l
	}
	cases := []struct {
		a, b []impl.Entry
		want int
	}{
		{nil, nil, 0}, {l, nil, 0}, {nil, l, 0}, {l, l, 5}, {l, night(), 5}, {l, l[:1], 1}, {l[:3], l, 3}, {l, fullRecord(), 0}, {l, sealedUp(append(night()[:2], shown(20, 1, 1))...), 2}, {l, sealedUp(append(night(), shown(31, 1, 1))...), 5}, {l, l[1:], 0},
		// From the first one on, whatever is the same behind one that differs; only the seals count.
		{seals(1, 2, 3, 4), seals(1, 9, 3, 4), 1}, {seals(1, 2, 3, 4), seals(9, 2, 3, 4), 0}, {seals(1, 2, 3, 4), seals(1, 2, 3, 9), 3}, {seals(0), seals(0), 1}, {seals(0, 0), seals(0), 1}, {seals(0), seals(0, 0), 1}, {seals(0), nil, 0}, {nil, seals(0), 0}, {seals(5), seals(6), 0}, {seals(math.MinInt, math.MaxInt), seals(math.MinInt, math.MaxInt), 2}, {seals(-1), seals(1), 0}, {[]impl.Entry{{Second: 5, Lights: []int{1}, Seal: 7}}, []impl.Entry{{Second: 6, Lights: []int{2, 0}, Seal: 7}}, 1},
		{make([]impl.Entry, 1000), make([]impl.Entry, 900), 900},
	}
	for _, c := range cases {
		if got, back := impl.SameUntil(c.a, c.b), impl.SameUntil(c.b, c.a); got != c.want || back != c.want {
			t.Errorf("SameUntil(%v, %v) = %d, and the other way round %d; want %d", c.a, c.b, got, back, c.want)
		}
	}
	source := rand.New(rand.NewSource(248))
	for range 500 {
		var a, b []int
		for range source.Intn(8) {
			a = append(a, source.Intn(2))
		}
		for range source.Intn(8) {
			b = append(b, source.Intn(2))
		}
		want := 0
		for want < len(a) && want < len(b) && a[want] == b[want] {
			want++
		}
		if got := impl.SameUntil(seals(a...), seals(b...)); got != want {
			t.Errorf("SameUntil of %v and %v is %d; want %d", a, b, got, want)
		}
	}
}

// Promise 27: records tell where they differ: what is noted otherwise at one entry has other seals from this entry on, and to
// change an entry under its seals is seen.
func TestRecordsTellWhereTheyDiffer(t *testing.T) {
	source := rand.New(rand.NewSource(249))
	differ := 0
	for _, l := range someRecords(250, 200) {
		if impl.SameUntil(l, l) != len(l) {
			t.Fatalf("SameUntil of %v and itself is %d", l, impl.SameUntil(l, l))
		}
		if len(l) == 0 || len(l[0].Lights) == 0 {
			continue
		}
		at := source.Intn(len(l))
		light := source.Intn(len(l[at].Lights))
		// The other record shows another light at one entry, and then just the same ones.
		var other []impl.Entry
		for i, e := range l {
			lights := slices.Clone(e.Lights)
			if i == at {
				lights[light] = (lights[light] + 1 + source.Intn(2)) % 3
			}
			more, ok := impl.AddEntry(other, e.Second, lights)
			if !ok {
				t.Fatalf("AddEntry(%v, %d, %v) is refused", other, e.Second, lights)
			}
			other = more
		}
		if got := impl.SameUntil(l, other); got != at || !impl.IsRecord(other) || impl.LastSeal(l) == impl.LastSeal(other) {
			t.Fatalf("%v and %v are the same until %d; want %d", l, other, got, at)
		}
		differ++
		// The one entry alone does not fit under the old seals, nor does it with a seal of its own before the others.
		mixed := copyRecord(l)
		mixed[at].Lights = slices.Clone(other[at].Lights)
		if impl.IsRecord(mixed) {
			t.Fatalf("IsRecord(%v) is true", mixed)
		}
		mixed[at].Seal = other[at].Seal
		if impl.IsRecord(mixed) != (at == len(l)-1) {
			t.Fatalf("IsRecord(%v) is %v", mixed, impl.IsRecord(mixed))
		}
	}
	if differ < 50 {
		t.Error(differ)
	}
}

// What is noted second by second has an entry just for each change.
func TestNotesOfAPlan(t *testing.T) {
	for _, c := range examples() {
		var l []impl.Entry
		var last []int
		changes := 0
		for second := range min(2*cycleOf(c.l, c.p), 100) {
			lights := impl.LightsAt(c.l, c.p, second)
			if !slices.Equal(lights, last) && changes < 60 {
				changes++
			}
			last = lights
			more, ok := impl.NoteLights(l, second, lights)
			if !ok || len(more) != changes || !slices.Equal(more[len(more)-1].Lights, lights) || impl.SameUntil(l, more) != len(l) {
				t.Fatalf("NoteLights(%v, %d, %v) = %v, %v", l, second, lights, more, ok)
			}
			l = more
		}
	}
}

// wantUntouchedRecord calls visit with entries in greater arrays, and checks that nothing in these is changed.
func wantUntouchedRecord(t *testing.T, name string, l []impl.Entry, visit func(l []impl.Entry)) {
	t.Helper()
	var entries []impl.Entry
	var wholeLights [][]int
	for _, e := range l {
		lights, whole := roomy(e.Lights, 2, 77)
		entries, wholeLights = append(entries, impl.Entry{Second: e.Second, Lights: lights, Seal: e.Seal}), append(wholeLights, whole)
	}
	given, whole := roomy(entries, shown(999999, 1, 2), impl.Entry{})
	want, lights := copyRecord(whole), copyStages(wholeLights)
	visit(given)
	if !sameEntries(whole, want) || !sameStages(wholeLights, lights) {
		t.Errorf("%s changes %v to %v, or the lights to %v", name, want, whole, wholeLights)
	}
}

// wantOwnRecord checks that a write to a result changes neither its other lights nor another result.
func wantOwnRecord(t *testing.T, name string, call func() []impl.Entry) {
	t.Helper()
	want, other := copyRecord(call()), call()
	for i := range want {
		l := call()
		spoil(l[i].Lights)
		for j := range want {
			if j != i && !slices.Equal(l[j].Lights, want[j].Lights) {
				t.Errorf("%s: a write to the lights %d changes %v to %v", name, i, want[j], l[j])
			}
		}
		clear(l[:cap(l)])
	}
	if !sameEntries(other, want) || !sameEntries(call(), want) {
		t.Errorf("%s: a write to a result changes %v to %v or %v", name, want, other, call())
	}
}

func TestRecordsAreNewMemory(t *testing.T) {
	source := rand.New(rand.NewSource(251))
	for _, l := range append(someRecords(252, 20), notRecords()...) {
		if len(l) > 60 {
			l = l[:61]
		}
		second, drawn := drawEntry(source, l)
		wantUntouchedRecord(t, "a function of records", l, func(l []impl.Entry) {
			wantUntouchedList(t, "a function of lights", drawn, 2, func(lights []int) {
				impl.SealOf(5, second, lights)
				impl.IsRecord(l)
				impl.LastSeal(l)
				impl.SameUntil(l, l)
				wantOwnRecord(t, "AddEntry", func() []impl.Entry { more, _ := impl.AddEntry(l, second, lights); return more })
				wantOwnRecord(t, "NoteLights", func() []impl.Entry { more, _ := impl.NoteLights(l, second, lights); return more })
				if len(l) > 0 {
					same := l[len(l)-1].Lights
					wantOwnRecord(t, "NoteLights", func() []impl.Entry { more, _ := impl.NoteLights(l, second, same); return more })
				}
			})
		})
	}
}
