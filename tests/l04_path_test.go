package tests

import (
	"fmt"
	"math"
	"testing"

	"loop.example/g03006/impl"
)

func path(id int, kind int, from int, to int) impl.Path {
	return impl.Path{Id: id, Kind: kind, From: from, To: to}
}

func car(id int, from int, to int) impl.Path { return path(id, impl.PtCar, from, to) }

func walk(id int, arm int) impl.Path { return path(id, impl.PtWalk, arm, arm) }

func bus(id int, from int, to int) impl.Path { return path(id, impl.PtBus, from, to) }

// around are numbers at both ends of the range from low to high, within it and beyond it, up to the least and the greatest int.
func around(low int, high int) []int {
	list := []int{math.MinInt, math.MinInt + 1, -1 << 32, -256, -128, -64}
	for n := low - 9; n <= high+9; n++ {
		list = append(list, n)
	}
	return append(list, 64, 128, 256, 256+low, 1<<32, 1<<32+low, 1<<62, 1<<62+low, math.MaxInt-1, math.MaxInt)
}

// validForms are all valid paths with an Id of 1, in the order of their kinds and arms: 12 cars, 4 walks and 12 buses.
func validForms() []impl.Path {
	var forms []impl.Path
	for _, kind := range []int{impl.PtCar, impl.PtWalk, impl.PtBus} {
		for place := range 16 {
			from, to := place/4, place%4
			if (kind == impl.PtWalk) == (from == to) {
				forms = append(forms, path(1, kind, from, to))
			}
		}
	}
	return forms
}

// validPaths is the oracle for IsPath: a map of all valid paths.
func validPaths() map[impl.Path]bool {
	valid := map[impl.Path]bool{}
	for id := 1; id <= 20; id++ {
		for _, p := range validForms() {
			p.Id = id
			valid[p] = true
		}
	}
	return valid
}

// invalidPaths are paths that fail in one thing only, or in all.
func invalidPaths() []impl.Path {
	return []impl.Path{
		{}, path(0, impl.PtCar, 0, 2), path(21, impl.PtCar, 0, 2), path(-1, impl.PtCar, 0, 2), path(math.MinInt, impl.PtCar, 0, 2), path(math.MaxInt, impl.PtCar, 0, 2),
		path(1, 0, 0, 2), path(1, 4, 0, 2), path(1, -1, 0, 2), path(1, math.MinInt, 0, 2), path(1, math.MaxInt, 0, 2), path(1, 0, 1, 1), path(1, 4, 1, 1),
		path(1, impl.PtCar, -1, 2), path(1, impl.PtCar, 4, 2), path(1, impl.PtBus, 0, -1), path(1, impl.PtBus, 0, 4), path(1, impl.PtCar, math.MinInt, 2), path(1, impl.PtCar, 0, math.MaxInt),
		path(1, impl.PtCar, 2, 2), path(1, impl.PtBus, 0, 0), path(1, impl.PtWalk, 0, 2), path(1, impl.PtWalk, 3, 0),
		path(1, impl.PtWalk, 4, 4), path(1, impl.PtWalk, -1, -1), path(1, impl.PtWalk, math.MinInt, math.MinInt), path(1, impl.PtWalk, math.MaxInt, math.MaxInt),
		path(math.MaxInt, math.MaxInt, math.MaxInt, math.MaxInt), path(math.MinInt, math.MinInt, math.MinInt, math.MinInt),
	}
}

func TestPathKinds(t *testing.T) {
	if impl.PtCar != 1 || impl.PtWalk != 2 || impl.PtBus != 3 {
		t.Error(impl.PtCar, impl.PtWalk, impl.PtBus)
	}
}

// Each Id, kind and arm at both ends of its range and beyond, with all the others: what is no path has no turn and no text.
func TestIsPath(t *testing.T) {
	valid := validPaths()
	if len(valid) != 20*28 {
		t.Fatal(len(valid))
	}
	met := 0
	check := func(p impl.Path) {
		if got := impl.IsPath(p); got != valid[p] {
			t.Errorf("IsPath(%v) = %v", p, got)
		}
		if !valid[p] && (impl.TurnOf(p) != "" || impl.PathText(p) != "") {
			t.Errorf("%v is no path, and has the turn %q and the text %q", p, impl.TurnOf(p), impl.PathText(p))
		}
		if valid[p] {
			met++
		}
	}
	for id := -2; id <= 23; id++ {
		for kind := -2; kind <= 6; kind++ {
			for from := -2; from <= 6; from++ {
				for to := -2; to <= 6; to++ {
					check(path(id, kind, from, to))
				}
			}
		}
	}
	if met != len(valid) {
		t.Error(met)
	}
	for _, p := range validForms() {
		for _, n := range around(0, 20) {
			for _, q := range []impl.Path{path(n, p.Kind, p.From, p.To), path(p.Id, n, p.From, p.To), path(p.Id, p.Kind, n, p.To), path(p.Id, p.Kind, p.From, n), path(p.Id, p.Kind, n, n)} {
				check(q)
			}
		}
	}
}

func TestInvalidPaths(t *testing.T) {
	for _, p := range invalidPaths() {
		if impl.IsPath(p) || impl.TurnOf(p) != "" || impl.PathText(p) != "" {
			t.Errorf("%v: IsPath %v, turn %q, text %q", p, impl.IsPath(p), impl.TurnOf(p), impl.PathText(p))
		}
	}
}

func TestPlaces(t *testing.T) {
	in, out := []int{0, 2, 4, 6}, []int{1, 3, 5, 7}
	for _, arm := range around(0, 3) {
		wantIn, wantOut := -1, -1
		if arm >= 0 && arm <= 3 {
			wantIn, wantOut = in[arm], out[arm]
		}
		if impl.InPlace(arm) != wantIn || impl.OutPlace(arm) != wantOut {
			t.Errorf("arm %d has the places %d and %d; want %d and %d", arm, impl.InPlace(arm), impl.OutPlace(arm), wantIn, wantOut)
		}
	}
}

func TestTurnOf(t *testing.T) {
	// The turn from each arm, a row, to each one, a column.
	turns := [4][4]string{
		{"walk", "next", "over", "last"},
		{"last", "walk", "next", "over"},
		{"over", "last", "walk", "next"},
		{"next", "over", "last", "walk"},
	}
	for p := range validPaths() {
		if got := impl.TurnOf(p); got != turns[p.From][p.To] {
			t.Errorf("TurnOf(%v) = %q; want %q", p, got, turns[p.From][p.To])
		}
	}
}

func TestPathText(t *testing.T) {
	cases := []struct {
		p    impl.Path
		want string
	}{
		{car(3, 0, 2), "3c02"}, {walk(20, 1), "20w11"},
		{bus(1, 3, 0), "1b30"}, {walk(10, 0), "10w00"},
	}
	for _, c := range cases {
		if got := impl.PathText(c.p); got != c.want {
			t.Errorf("PathText(%v) = %q; want %q", c.p, got, c.want)
		}
	}
	letters := map[int]string{impl.PtCar: "c", impl.PtWalk: "w", impl.PtBus: "b"}
	seen := map[string]impl.Path{}
	for p := range validPaths() {
		got := impl.PathText(p)
		if want := fmt.Sprintf("%d%s%d%d", p.Id, letters[p.Kind], p.From, p.To); got != want {
			t.Errorf("PathText(%v) = %q; want %q", p, got, want)
		}
		if other, met := seen[got]; met {
			t.Errorf("%v and %v have the same text %q", p, other, got)
		}
		seen[got] = p
	}
}

// goesPast is the oracle for a chord: it walks from a upwards, place for place, and counts which of c and d come before b.
func goesPast(a int, b int, c int, d int) int {
	met := 0
	for at := a; at != b; {
		at++
		if at == 8 {
			at = 0
		}
		if at != b && (at == c || at == d) {
			met++
		}
	}
	return met
}

func chordsCross(a int, b int, c int, d int) bool {
	ends := []int{a, b, c, d}
	for i, n := range ends {
		if n < 0 || n > 7 {
			return false
		}
		for _, other := range ends[:i] {
			if n == other {
				return false
			}
		}
	}
	return goesPast(a, b, c, d) == 1
}

func TestInterleave(t *testing.T) {
	cases := []struct {
		a, b, c, d int
		want       bool
	}{
		{0, 4, 2, 6, true}, {0, 2, 1, 3, true}, {0, 1, 2, 3, false}, {1, 6, 2, 7, true}, {1, 6, 2, 5, false}, {1, 6, 7, 0, false},
		// Chords that go upwards over place 7 to 0.
		{4, 0, 2, 6, true}, {6, 2, 7, 4, true}, {6, 2, 0, 1, false}, {7, 1, 0, 4, true}, {7, 0, 1, 6, false}, {6, 2, 3, 5, false}, {5, 3, 4, 7, true},
		// Chords that share a place.
		{0, 4, 4, 6, false}, {0, 4, 0, 2, false}, {0, 4, 2, 4, false}, {0, 4, 2, 0, false}, {0, 4, 0, 4, false}, {0, 4, 4, 0, false}, {0, 0, 2, 6, false}, {0, 4, 2, 2, false}, {3, 3, 3, 3, false},
		// Places that are none.
		{0, 4, 2, 8, false}, {-1, 4, 2, 6, false}, {0, 8, 2, 6, false}, {0, 4, -2, 6, false}, {8, 12, 10, 14, false}, {-8, -4, -6, -2, false}, {0, 4, 2, 14, false},
		{math.MinInt, 4, 2, 6, false}, {0, math.MaxInt, 2, 6, false}, {0, 4, math.MinInt, 6, false}, {0, 4, 2, math.MaxInt, false}, {math.MinInt, math.MaxInt, -1, 8, false},
	}
	for _, c := range cases {
		if got := impl.Interleave(c.a, c.b, c.c, c.d); got != c.want {
			t.Errorf("Interleave(%d, %d, %d, %d) = %v", c.a, c.b, c.c, c.d, got)
		}
	}
	crossing := 0
	fourNumbers(func(a int, b int, c int, d int) {
		got := impl.Interleave(a, b, c, d)
		if got != chordsCross(a, b, c, d) {
			t.Errorf("Interleave(%d, %d, %d, %d) = %v", a, b, c, d, got)
		}
		if got {
			crossing++
		}
	})
	// Of 4 places just one of the three pairs of chords crosses, in 8 orders.
	if crossing != 70*8 {
		t.Error(crossing)
	}
}

// fourNumbers calls visit with all of four numbers around the places.
func fourNumbers(visit func(a int, b int, c int, d int)) {
	for n := range 12 * 12 * 12 * 12 {
		visit(n/1728-2, n/144%12-2, n/12%12-2, n%12-2)
	}
}

// Promise 4: chords interleave whichever of their ends comes first, and whichever of the two chords.
func TestChordsInterleaveBothWays(t *testing.T) {
	check := func(a int, b int, c int, d int) {
		want := impl.Interleave(a, b, c, d)
		for _, o := range [][4]int{{b, a, c, d}, {a, b, d, c}, {b, a, d, c}, {c, d, a, b}, {d, c, a, b}, {c, d, b, a}, {d, c, b, a}} {
			if impl.Interleave(o[0], o[1], o[2], o[3]) != want {
				t.Errorf("Interleave(%d, %d, %d, %d) = %v, but not that of %v", a, b, c, d, want, o)
			}
		}
	}
	fourNumbers(check)
	for _, n := range around(0, 7) {
		check(n, 4, 2, 6)
		check(0, n, 2, 6)
		check(7, 3, n, 0)
		check(n, n, n, n)
		check(1, 5, n, -n)
	}
}

// The place where one comes in and that where one goes out to the last arm are side by side, so that nobody crosses there.
func TestChordsOfPaths(t *testing.T) {
	chords := func(from, to, otherFrom, otherTo int) bool {
		return impl.Interleave(impl.InPlace(from), impl.OutPlace(to), impl.InPlace(otherFrom), impl.OutPlace(otherTo))
	}
	cases := []struct {
		from, to, otherFrom, otherTo int
		want                         bool
	}{
		{0, 2, 1, 3, true}, {0, 2, 3, 1, true}, {0, 2, 2, 0, false}, {0, 2, 0, 1, false}, {0, 2, 1, 2, false}, {0, 3, 1, 0, false}, {0, 3, 1, 2, false}, {2, 1, 0, 2, false},
		{0, 1, 1, 2, true}, {0, 1, 2, 3, false}, {0, 1, 3, 0, true}, {0, 4, 1, 3, false}, {-1, 2, 1, 3, false},
	}
	for _, c := range cases {
		if got := chords(c.from, c.to, c.otherFrom, c.otherTo); got != c.want {
			t.Errorf("the chords from %d to %d and from %d to %d: %v", c.from, c.to, c.otherFrom, c.otherTo, got)
		}
	}
}
