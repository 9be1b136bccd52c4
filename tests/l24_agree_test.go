package tests

import (
	"math"
	"math/rand"
	"slices"
	"testing"

	"loop.example/g03006/impl"
)

func turn(plan int, at int, votes ...int) impl.Turn {
	return impl.Turn{Plan: plan, At: at, Votes: votes}
}

func sameTurn(a impl.Turn, b impl.Turn) bool {
	return a.Plan == b.Plan && a.At == b.At && slices.Equal(a.Votes, b.Votes)
}

// isTurn is the oracle for IsTurn.
func isTurn(x impl.Turn) bool {
	for _, vote := range x.Votes {
		if vote != 0 && vote != 1 && vote != 2 {
			return false
		}
	}
	return x.Plan >= 1 && x.Plan <= 99 && x.At >= 0 && x.At <= 1000000 && len(x.Votes) >= 1 && len(x.Votes) <= 8
}

// isAgreed is the oracle for IsAgreed.
func isAgreed(x impl.Turn) bool {
	return isTurn(x) && !slices.Contains(x.Votes, 0) && !slices.Contains(x.Votes, 2)
}

// voteTurn is the oracle for VoteTurn.
func voteTurn(x impl.Turn, crossing int, yes bool, now int) (impl.Turn, bool) {
	if !isTurn(x) || crossing < 1 || crossing > len(x.Votes) || x.Votes[crossing-1] != 0 || now >= x.At {
		return x, false
	}
	vote := 2
	if yes {
		vote = 1
	}
	return turn(x.Plan, x.At, withNumber(x.Votes, crossing-1, vote)...), true
}

// drawTurn returns a turn that is valid; often most have voted yes.
func drawTurn(source *rand.Rand) impl.Turn {
	x := turn([]int{1, 99, 1 + source.Intn(99)}[source.Intn(3)], []int{0, 1000000, source.Intn(1000001), source.Intn(10)}[source.Intn(4)])
	for range []int{1, 8, 1 + source.Intn(8)}[source.Intn(3)] {
		x.Votes = append(x.Votes, []int{1, 1, 1, 1, 1, 0, 0, 2}[source.Intn(8)])
	}
	return x
}

// knownTurns are turns that are valid.
func knownTurns() []impl.Turn {
	return []impl.Turn{
		turn(7, 100, 0, 0, 0), turn(7, 100, 1, 0, 1), turn(7, 100, 1, 1, 1), turn(7, 100, 1, 2, 1), turn(7, 100, 2, 2, 2), turn(1, 0, 0), turn(99, 1000000, 1), turn(1, 1, 2), turn(5, 9, 1, 1, 1, 1, 1, 1, 1, 1), turn(5, 9, 1, 1, 1, 1, 1, 1, 1, 0), turn(5, 9, 2, 1, 1, 1, 1, 1, 1, 1),
	}
}

// notTurns are turns of which one number is not valid, or of which there are too few or too many.
func notTurns() []impl.Turn {
	list := []impl.Turn{{}, turn(7, 100), turn(7, 100, make([]int, 9)...), turn(7, 100, 1, 1, 1, 1, 1, 1, 1, 1, 1), turn(7, 100, make([]int, 1000)...)}
	for _, n := range []int{0, 100, -1, 101, math.MinInt, math.MaxInt, 1<<32 + 7} {
		list = append(list, turn(n, 100, 1, 1, 1), turn(n, 100, 0))
	}
	for _, n := range []int{-1, 1000001, math.MinInt, math.MaxInt, 1<<32 + 100} {
		list = append(list, turn(7, n, 1, 1, 1), turn(7, n, 0))
	}
	for _, n := range []int{-1, 3, 4, 100, math.MinInt, math.MaxInt, 1 << 32, 1<<32 + 1} {
		list = append(list, turn(7, 100, n), turn(7, 100, n, 1, 1), turn(7, 100, 1, n, 1), turn(7, 100, 1, 1, n), turn(7, 100, 0, n, n))
	}
	return list
}

func TestVoteLimits(t *testing.T) {
	if impl.VtNone != 0 || impl.VtYes != 1 || impl.VtNo != 2 {
		t.Error(impl.VtNone, impl.VtYes, impl.VtNo)
	}
}

func TestNewTurn(t *testing.T) {
	for _, plan := range around(1, 99) {
		for _, at := range []int{0, 1, 100, 1000000, 1000001, -1, math.MinInt, math.MaxInt, 1 << 32} {
			for _, crossings := range []int{0, 1, 2, 7, 8, 9, -1, 1000, math.MinInt, math.MaxInt, 1<<32 + 3} {
				can := plan >= 1 && plan <= 99 && at >= 0 && at <= 1000000 && crossings >= 1 && crossings <= 8
				want := impl.Turn{}
				if can {
					want = turn(plan, at, make([]int, crossings)...)
				}
				if got, ok := impl.NewTurn(plan, at, crossings); ok != can || !sameTurn(got, want) || impl.IsTurn(got) != can {
					t.Errorf("NewTurn(%d, %d, %d) = %v, %v; want %v, %v", plan, at, crossings, got, ok, want, can)
				}
			}
		}
	}
}

func TestIsTurn(t *testing.T) {
	source := rand.New(rand.NewSource(222))
	list := knownTurns()
	for range 500 {
		list = append(list, drawTurn(source))
	}
	for _, x := range list {
		if !impl.IsTurn(x) || !isTurn(x) {
			t.Errorf("IsTurn(%v) is false", x)
		}
	}
	for _, x := range notTurns() {
		if impl.IsTurn(x) || isTurn(x) {
			t.Errorf("IsTurn(%v) is true", x)
		}
	}
	for _, n := range append(around(1, 99), around(999999, 1000000)...) {
		for _, x := range []impl.Turn{turn(n, 5, 0), turn(5, n, 0), turn(5, 5, n), turn(5, 5, 1, n)} {
			if got := impl.IsTurn(x); got != isTurn(x) {
				t.Errorf("IsTurn(%v) = %v", x, got)
			}
		}
	}
	for count := range 20 {
		if got := impl.IsTurn(turn(5, 5, make([]int, count)...)); got != (count >= 1 && count <= 8) {
			t.Errorf("IsTurn with %d votes is %v", count, got)
		}
	}
}

func TestVoteTurn(t *testing.T) {
	x := turn(7, 100, 0, 1, 2, 0)
	cases := []struct {
		x        impl.Turn
		crossing int
		yes      bool
		now      int
		want     impl.Turn
		ok       bool
	}{
		{x, 1, true, 50, turn(7, 100, 1, 1, 2, 0), true}, {x, 1, false, 50, turn(7, 100, 2, 1, 2, 0), true}, {x, 4, true, 50, turn(7, 100, 0, 1, 2, 1), true}, {x, 4, false, 50, turn(7, 100, 0, 1, 2, 2), true},
		// A crossing that has voted, yes and no.
		{x, 2, true, 50, x, false}, {x, 2, false, 50, x, false}, {x, 3, true, 50, x, false}, {x, 3, false, 50, x, false},
		// No such crossing.
		{x, 0, true, 50, x, false}, {x, 5, true, 50, x, false}, {x, -1, true, 50, x, false}, {x, math.MinInt, true, 50, x, false}, {x, math.MaxInt, false, 50, x, false}, {x, 1<<32 + 1, true, 50, x, false},
		// One before At, at At, and behind it; a second below 0 is before it, too.
		{x, 1, true, 99, turn(7, 100, 1, 1, 2, 0), true}, {x, 1, true, 100, x, false}, {x, 1, true, 101, x, false}, {x, 1, true, 0, turn(7, 100, 1, 1, 2, 0), true}, {x, 1, true, -1, turn(7, 100, 1, 1, 2, 0), true}, {x, 1, true, math.MinInt, turn(7, 100, 1, 1, 2, 0), true}, {x, 1, true, math.MaxInt, x, false}, {turn(7, 0, 0), 1, true, 0, turn(7, 0, 0), false}, {turn(7, 0, 0), 1, true, -1, turn(7, 0, 1), true}, {turn(7, 1000000, 0), 1, false, 999999, turn(7, 1000000, 2), true},
	}
	for _, c := range cases {
		if got, ok := impl.VoteTurn(c.x, c.crossing, c.yes, c.now); ok != c.ok || !sameTurn(got, c.want) {
			t.Errorf("VoteTurn(%v, %d, %v, %d) = %v, %v; want %v, %v", c.x, c.crossing, c.yes, c.now, got, ok, c.want, c.ok)
		}
	}
	source := rand.New(rand.NewSource(223))
	list := append(knownTurns(), notTurns()...)
	for range 500 {
		list = append(list, drawTurn(source))
	}
	for _, x := range list {
		for crossing := -1; crossing <= 10; crossing++ {
			for _, now := range []int{x.At - 1, x.At, x.At + 1, 0, source.Intn(1000001)} {
				yes := source.Intn(2) == 0
				want, can := voteTurn(x, crossing, yes, now)
				if got, ok := impl.VoteTurn(x, crossing, yes, now); ok != can || !sameTurn(got, want) {
					t.Errorf("VoteTurn(%v, %d, %v, %d) = %v, %v; want %v, %v", x, crossing, yes, now, got, ok, want, can)
				}
			}
		}
	}
}

func TestIsAgreed(t *testing.T) {
	for i, want := range []bool{false, false, true, false, false, false, true, false, true, false, false} {
		if x := knownTurns()[i]; impl.IsAgreed(x) != want {
			t.Errorf("IsAgreed(%v) = %v", x, impl.IsAgreed(x))
		}
	}
	for _, x := range notTurns() {
		if impl.IsAgreed(x) {
			t.Errorf("IsAgreed(%v) is true", x)
		}
	}
	source := rand.New(rand.NewSource(224))
	for range 1000 {
		if x := drawTurn(source); impl.IsAgreed(x) != isAgreed(x) {
			t.Errorf("IsAgreed(%v) = %v", x, impl.IsAgreed(x))
		}
	}
}

func TestPlanAfter(t *testing.T) {
	list := knownTurns()
	cases := []struct {
		x                 impl.Turn
		before, now, want int
	}{
		{list[2], 3, 99, 3}, {list[2], 3, 100, 7}, {list[2], 3, 101, 7}, {list[2], 3, math.MaxInt, 7}, {list[2], 3, math.MinInt, 3}, {list[2], 3, -1, 3}, {list[6], 3, 999999, 3}, {list[6], 3, 1000000, 99}, {list[6], 3, 1000001, 99}, {turn(4, 0, 1), 3, 0, 4}, {turn(4, 0, 1), 3, -1, 3},
		// One vote is missing, and one is no.
		{list[1], 3, 100, 3}, {list[3], 3, 100, 3}, {list[0], 3, 500, 3}, {list[9], 3, 500, 3}, {list[10], 3, 500, 3}, {list[8], 3, 500, 5},
		// Any number can be that of the plan before.
		{list[0], 0, 100, 0}, {list[0], -5, 100, -5}, {list[2], math.MinInt, 99, math.MinInt}, {list[2], math.MaxInt, 99, math.MaxInt}, {list[2], math.MaxInt, 100, 7},
	}
	for _, c := range cases {
		if got := impl.PlanAfter(c.x, c.before, c.now); got != c.want {
			t.Errorf("PlanAfter(%v, %d, %d) = %d; want %d", c.x, c.before, c.now, got, c.want)
		}
	}
	for _, x := range notTurns() {
		for _, now := range []int{-1, 0, 99, 100, 2000000, math.MaxInt} {
			if got := impl.PlanAfter(x, 3, now); got != 3 {
				t.Errorf("PlanAfter(%v, 3, %d) = %d", x, now, got)
			}
		}
	}
}

// Promise 24: a plan is taken only when all have agreed, before its second, and then by all from this second on; one that says
// no, or nothing, keeps the plan before for ever.
func TestAPlanIsTakenOnlyWhenAllHaveAgreed(t *testing.T) {
	source := rand.New(rand.NewSource(225))
	taken := 0
	for range 2000 {
		plan, at, crossings := 1+source.Intn(99), source.Intn(40), 1+source.Intn(8)
		x, ok := impl.NewTurn(plan, at, crossings)
		if !ok {
			t.Fatalf("NewTurn(%d, %d, %d)", plan, at, crossings)
		}
		// Each crossing answers at a second of its own, most of them yes.
		agreed, rounds := 0, 3
		for _, n := range source.Perm(rounds * crossings) {
			crossing, now, yes := 1+n%crossings, source.Intn(at+3), source.Intn(20) > 0
			had := x.Votes[crossing-1]
			after, ok := impl.VoteTurn(x, crossing, yes, now)
			if ok != (had == impl.VtNone && now < at) || after.Votes[crossing-1] != had && !ok {
				t.Fatalf("VoteTurn(%v, %d, %v, %d) = %v, %v", x, crossing, yes, now, after, ok)
			}
			if ok && yes {
				agreed++
			}
			x = after
		}
		if impl.IsAgreed(x) != (agreed == crossings) || impl.CountVotes(x, impl.VtYes) != agreed || impl.CountVotes(x, impl.VtYes)+impl.CountVotes(x, impl.VtNo)+impl.CountVotes(x, impl.VtNone) != crossings {
			t.Fatalf("%v: %d have agreed", x, agreed)
		}
		for now := -1; now < at+5; now++ {
			want := 100
			if agreed == crossings && now >= at {
				want = plan
				taken++
			}
			if got := impl.PlanAfter(x, 100, now); got != want {
				t.Fatalf("PlanAfter(%v, 100, %d) = %d; want %d", x, now, got, want)
			}
		}
	}
	if taken < 500 {
		t.Error(taken)
	}
}

func TestCountVotes(t *testing.T) {
	x := turn(7, 100, 1, 0, 1, 2, 1, 0)
	odd := turn(-1, -1, 5, 5, -1, math.MinInt, math.MaxInt, 1, 5, 0, 0, 0, 0)
	cases := []struct {
		x          impl.Turn
		vote, want int
	}{
		{x, 0, 2}, {x, 1, 3}, {x, 2, 1}, {x, 3, 0}, {x, -1, 0}, {x, math.MinInt, 0}, {x, math.MaxInt, 0}, {x, 1 << 32, 0}, {impl.Turn{}, 0, 0}, {impl.Turn{}, 1, 0}, {turn(7, 100, 0, 0), 1, 0},
		// Votes that are none of the three, in a turn that is not valid.
		{odd, 5, 3}, {odd, -1, 1}, {odd, math.MinInt, 1}, {odd, math.MaxInt, 1}, {odd, 1, 1}, {odd, 0, 4}, {odd, 2, 0}, {odd, 4, 0},
	}
	for _, c := range cases {
		if got := impl.CountVotes(c.x, c.vote); got != c.want {
			t.Errorf("CountVotes(%v, %d) = %d; want %d", c.x, c.vote, got, c.want)
		}
	}
}

func TestTurnsAreNewMemory(t *testing.T) {
	source := rand.New(rand.NewSource(226))
	list := append(knownTurns(), notTurns()...)
	for range 100 {
		list = append(list, drawTurn(source))
	}
	for _, x := range list {
		wantUntouchedList(t, "a function of turns", x.Votes, 1, func(votes []int) {
			x := turn(x.Plan, x.At, votes...)
			impl.IsTurn(x)
			impl.IsAgreed(x)
			impl.PlanAfter(x, 1, 5)
			impl.CountVotes(x, 1)
			for crossing := range 10 {
				for _, now := range []int{x.At - 1, x.At} {
					wantOwnList(t, "VoteTurn", 7, func() []int { after, _ := impl.VoteTurn(x, crossing, true, now); return after.Votes })
				}
			}
		})
	}
	wantOwnList(t, "NewTurn", 7, func() []int { x, _ := impl.NewTurn(7, 100, 3); return x.Votes })
}
