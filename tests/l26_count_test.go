package tests

import (
	"math"
	"math/rand"
	"testing"

	"loop.example/g03006/impl"
)

func tally(in int, out int, room int) impl.Tally { return impl.Tally{In: in, Out: out, Room: room} }

// isTally is the oracle for IsTally.
func isTally(x impl.Tally) bool {
	for _, n := range []int{x.In, x.Out} {
		if n < 0 || n > 1000000 {
			return false
		}
	}
	return x.Room >= 0 && x.Room <= 100 && x.Out <= x.In && x.In-x.Out <= x.Room
}

// counted is the oracle for CountIn and CountOut: it adds to both numbers.
func counted(x impl.Tally, in int, out int) (impl.Tally, bool) {
	for _, n := range []int{in, out} {
		if n < 0 || n > 1000 {
			return x, false
		}
	}
	after := tally(x.In+in, x.Out+out, x.Room)
	if !isTally(x) || !isTally(after) {
		return x, false
	}
	return after, true
}

// drawTally returns a tally that is valid, often one that is all but full, or that has counted as far as it can.
func drawTally(source *rand.Rand) impl.Tally {
	room := []int{0, 1, 100, source.Intn(101)}[source.Intn(4)]
	inside := []int{0, room, source.Intn(room + 1)}[source.Intn(3)]
	out := []int{0, 1000000 - inside, source.Intn(1000000 - inside + 1), source.Intn(20)}[source.Intn(4)]
	return tally(out+inside, out, room)
}

// knownTallies are tallies that are valid.
func knownTallies() []impl.Tally {
	return []impl.Tally{{}, tally(12, 9, 5), tally(0, 0, 100), tally(100, 0, 100), tally(7, 7, 0), tally(1000000, 1000000, 0), tally(1000000, 1000000, 100), tally(1000000, 999900, 100), tally(999999, 999950, 100), tally(5, 0, 5), tally(1, 0, 1)}
}

// notTallies are tallies of which one number is out of range, or with fewer than none inside, or too many.
func notTallies() []impl.Tally {
	list := []impl.Tally{
		tally(9, 10, 100), tally(0, 1, 100), tally(9, 3, 5), tally(1, 0, 0), tally(101, 0, 100), tally(1000000, 999899, 100), tally(-1, -1, 5), tally(1000001, 1000001, 5), tally(1000001, 999999, 5), tally(5, 1000001, 5), tally(5, 5, 101), tally(5, 5, -1),
		// The difference of these wraps around.
		tally(math.MaxInt, math.MinInt, 100), tally(math.MinInt, math.MaxInt, 100), tally(math.MinInt, math.MinInt, 100), tally(math.MaxInt, math.MaxInt, 100),
	}
	for _, n := range []int{-1, 1000001, math.MinInt, math.MaxInt, 1 << 32, 1<<32 + 5} {
		list = append(list, tally(n, 0, 100), tally(5, n, 100), tally(5, 2, n), tally(n, n, n))
	}
	return list
}

func TestIsTally(t *testing.T) {
	if impl.MaxRoom != 100 {
		t.Error(impl.MaxRoom)
	}
	source := rand.New(rand.NewSource(238))
	list := knownTallies()
	for range 1000 {
		list = append(list, drawTally(source))
	}
	for _, x := range list {
		if !impl.IsTally(x) || !isTally(x) || impl.Inside(x) != x.In-x.Out {
			t.Errorf("IsTally(%v) = %v, Inside is %d", x, impl.IsTally(x), impl.Inside(x))
		}
	}
	for _, x := range notTallies() {
		if impl.IsTally(x) || isTally(x) || impl.Inside(x) != -1 {
			t.Errorf("IsTally(%v) = %v, Inside is %d", x, impl.IsTally(x), impl.Inside(x))
		}
	}
	for _, n := range append(around(0, 100), 999999, 1000000, 1000001) {
		for _, x := range []impl.Tally{tally(n, 0, 100), tally(n, n, 0), tally(50, n, 100), tally(50, n, 5), tally(20, 10, n), tally(1000000, n, 100), tally(n, 999900, 100)} {
			want := -1
			if isTally(x) {
				want = x.In - x.Out
			}
			if impl.IsTally(x) != isTally(x) || impl.Inside(x) != want {
				t.Errorf("IsTally(%v) = %v, Inside is %d", x, impl.IsTally(x), impl.Inside(x))
			}
		}
	}
}

// countCase is a count of so many, which succeeds or not.
type countCase struct {
	x  impl.Tally
	n  int
	ok bool
}

// wantCounts checks a function that counts, and adds to In and Out so much for each.
func wantCounts(t *testing.T, name string, count func(impl.Tally, int) (impl.Tally, bool), in int, out int, cases []countCase) {
	t.Helper()
	for _, c := range cases {
		want := c.x
		if c.ok {
			want = tally(c.x.In+in*c.n, c.x.Out+out*c.n, c.x.Room)
		}
		if got, ok := count(c.x, c.n); ok != c.ok || got != want {
			t.Errorf("%s(%v, %d) = %v, %v; want %v, %v", name, c.x, c.n, got, ok, want, c.ok)
		}
	}
}

func TestCountIn(t *testing.T) {
	wantCounts(t, "CountIn", impl.CountIn, 1, 0, []countCase{
		// It fills the room, and goes over it.
		{tally(12, 9, 5), 2, true}, {tally(12, 9, 5), 3, false}, {tally(12, 9, 5), 0, true}, {tally(12, 9, 5), 1, true}, {tally(0, 0, 100), 100, true}, {tally(0, 0, 100), 101, false}, {tally(5, 0, 5), 0, true}, {tally(5, 0, 5), 1, false}, {tally(0, 0, 0), 0, true}, {tally(0, 0, 0), 1, false},
		// It counts as far as it can, and farther.
		{tally(999950, 999940, 100), 50, true}, {tally(999950, 999940, 100), 51, false}, {tally(1000000, 1000000, 100), 0, true}, {tally(1000000, 1000000, 100), 1, false},
		// Out of range.
		{tally(0, 0, 100), -1, false}, {tally(0, 0, 100), 1000, false}, {tally(0, 0, 100), 1001, false}, {tally(50, 0, 100), -50, false}, {tally(0, 0, 100), math.MinInt, false}, {tally(0, 0, 100), math.MaxInt, false}, {tally(0, 0, 100), 1 << 32, false},
	})
}

func TestCountOut(t *testing.T) {
	wantCounts(t, "CountOut", impl.CountOut, 0, 1, []countCase{
		// All that are inside, and one more.
		{tally(12, 9, 5), 3, true}, {tally(12, 9, 5), 4, false}, {tally(12, 9, 5), 0, true}, {tally(100, 0, 100), 100, true}, {tally(100, 0, 100), 101, false}, {tally(7, 7, 0), 0, true}, {tally(7, 7, 0), 1, false}, {tally(1000000, 999900, 100), 100, true}, {tally(1000000, 1000000, 100), 1, false}, {tally(1000000, 1000000, 100), 0, true},
		{tally(100, 0, 100), -1, false}, {tally(100, 50, 100), -50, false}, {tally(100, 0, 100), 1000, false}, {tally(100, 0, 100), 1001, false}, {tally(100, 0, 100), math.MinInt, false}, {tally(100, 0, 100), math.MaxInt, false}, {tally(100, 0, 100), 1 << 32, false},
	})
}

func TestCountsOfMany(t *testing.T) {
	source := rand.New(rand.NewSource(239))
	list := append(knownTallies(), notTallies()...)
	for range 1000 {
		list = append(list, drawTally(source))
	}
	for _, x := range list {
		for _, n := range []int{-1, 0, 1, 2, x.In - x.Out, x.In - x.Out + 1, x.Room, x.Room - (x.In - x.Out), x.Room - (x.In - x.Out) + 1, 1000, 1001, source.Intn(100), math.MinInt, math.MaxInt} {
			want, can := counted(x, n, 0)
			if got, ok := impl.CountIn(x, n); ok != can || got != want {
				t.Errorf("CountIn(%v, %d) = %v, %v; want %v, %v", x, n, got, ok, want, can)
			}
			if got := impl.CanHold([]impl.Tally{{}, x}, 1, n); got != can {
				t.Errorf("CanHold of %v and %d is %v", x, n, got)
			}
			want, can = counted(x, 0, n)
			if got, ok := impl.CountOut(x, n); ok != can || got != want {
				t.Errorf("CountOut(%v, %d) = %v, %v; want %v, %v", x, n, got, ok, want, can)
			}
		}
	}
}

// Promise 26: however vehicles come in and go out, there are never more inside than there is room for, and never fewer than none.
func TestThereIsNeverMoreInsideThanThereIsRoom(t *testing.T) {
	source := rand.New(rand.NewSource(240))
	full, empty := 0, 0
	for range 300 {
		x := drawTally(source)
		inside := impl.Inside(x)
		for range 100 {
			n := source.Intn(1 + []int{3, 30, 120}[source.Intn(3)])
			hold := impl.CanHold([]impl.Tally{x}, 0, n)
			count, step := impl.CountIn, n
			if source.Intn(2) == 0 {
				count, step = impl.CountOut, -n
			}
			after, ok := count(x, n)
			if ok {
				inside += step
			}
			if impl.Inside(after) != inside || inside < 0 || inside > x.Room || !impl.IsTally(after) || after.Room != x.Room || !ok && after != x || step > 0 && ok != hold {
				t.Fatalf("%v is %v behind %d, %v: %d are inside", x, after, step, ok, inside)
			}
			x = after
			if inside == x.Room && x.Room > 0 {
				full++
			}
			if inside == 0 {
				empty++
			}
		}
	}
	if full < 100 || empty < 100 {
		t.Error(full, empty)
	}
}

func TestCanHold(t *testing.T) {
	l := []impl.Tally{tally(12, 9, 5), tally(0, 0, 3), tally(5, 6, 9), tally(0, 0, 100)}
	cases := []struct {
		street, n int
		want      bool
	}{
		{0, 2, true}, {0, 3, false}, {0, 0, true}, {1, 3, true}, {1, 4, false}, {3, 100, true}, {3, 101, false},
		// A tally that is not valid, no such index, and numbers out of range.
		{2, 0, false}, {2, 1, false}, {-1, 0, false}, {4, 0, false}, {5, 0, false}, {math.MinInt, 0, false}, {math.MaxInt, 0, false}, {1 << 32, 0, false}, {3, -1, false}, {3, 1001, false}, {3, math.MinInt, false}, {3, math.MaxInt, false},
	}
	for _, c := range cases {
		if got := impl.CanHold(l, c.street, c.n); got != c.want || impl.CanHold(nil, c.street, c.n) {
			t.Errorf("CanHold(%v, %d, %d) = %v", l, c.street, c.n, got)
		}
	}
	for _, x := range notTallies() {
		if impl.CanHold([]impl.Tally{x, {}}, 0, 0) || !impl.CanHold([]impl.Tally{x, {}}, 1, 0) {
			t.Errorf("CanHold of %v", x)
		}
	}
}

func TestTotalInside(t *testing.T) {
	cases := []struct {
		l    []impl.Tally
		want int
	}{
		{nil, 0}, {[]impl.Tally{{}}, 0}, {[]impl.Tally{tally(12, 9, 5)}, 3}, {[]impl.Tally{tally(12, 9, 5), tally(100, 0, 100), tally(7, 7, 0)}, 103}, {knownTallies(), 3 + 100 + 100 + 49 + 5 + 1},
		// Those that are not valid count nothing, alone, first, between and last.
		{[]impl.Tally{tally(5, 6, 9)}, 0}, {notTallies(), 0}, {[]impl.Tally{tally(9, 3, 5), tally(12, 9, 5), tally(5, 6, 9), tally(1, 0, 1), tally(-1, -1, 5)}, 4},
	}
	for _, c := range cases {
		if got := impl.TotalInside(c.l); got != c.want {
			t.Errorf("TotalInside(%v) = %d; want %d", c.l, got, c.want)
		}
	}
	source := rand.New(rand.NewSource(241))
	for range 300 {
		var l []impl.Tally
		want := 0
		for range source.Intn(30) {
			if source.Intn(4) == 0 {
				l = append(l, notTallies()[source.Intn(len(notTallies()))])
				continue
			}
			x := drawTally(source)
			l, want = append(l, x), want+x.In-x.Out
		}
		if got := impl.TotalInside(l); got != want {
			t.Errorf("TotalInside(%v) = %d; want %d", l, got, want)
		}
	}
}

func TestTalliesAreNotChanged(t *testing.T) {
	wantUntouchedList(t, "a function of tallies", append(knownTallies(), notTallies()...), tally(3, 2, 1), func(l []impl.Tally) {
		impl.TotalInside(l)
		for i := range len(l) + 1 {
			impl.CanHold(l, i, 1)
		}
	})
}
