package tests

import (
	"math"
	"math/rand"
	"slices"
	"testing"

	"loop.example/g03006/impl"
)

// queueAfter is the oracle for QueueStep of numbers that are in range: people come and go one by one.
func queueAfter(waiting int, arrive int, open bool) int {
	for range arrive {
		waiting++
	}
	if open && waiting > 0 {
		waiting--
	}
	for waiting > 10000 {
		waiting--
	}
	return waiting
}

// queueRun is the oracle for QueueRun of lists that are in order.
func queueRun(arrivals []int, open []bool) []int {
	queue := []int{}
	for i := range arrivals {
		before := 0
		if i > 0 {
			before = queue[i-1]
		}
		queue = append(queue, queueAfter(before, arrivals[i], open[i]))
	}
	return queue
}

// always returns a list that is open, or closed, for so many seconds.
func always(open bool, seconds int) []bool {
	list := make([]bool, seconds)
	for i := range list {
		list[i] = open
	}
	return list
}

// drawArrivals draws who comes in so many seconds: few mostly, and in some seconds many.
func drawArrivals(source *rand.Rand, seconds int) []int {
	arrivals := make([]int, seconds)
	for i := range arrivals {
		arrivals[i] = []int{0, 0, 0, 1, 0, 1, 2, 0, 1, 0, 0, 1, 3, 9, 4000, 9999, 10000}[source.Intn(13+source.Intn(5))]
	}
	return arrivals
}

// drawOpen draws in which of so many seconds it is open.
func drawOpen(source *rand.Rand, seconds int) []bool {
	open, often := make([]bool, seconds), source.Intn(4)
	for i := range open {
		open[i] = source.Intn(4) <= often
	}
	return open
}

func TestQueueStep(t *testing.T) {
	if impl.MaxQueue != 10000 {
		t.Error(impl.MaxQueue)
	}
	cases := []struct {
		waiting, arrive int
		open            bool
		want            int
	}{
		{0, 0, false, 0}, {0, 0, true, 0}, {1, 0, false, 1}, {1, 0, true, 0}, {0, 1, false, 1}, {0, 1, true, 0}, {5, 3, false, 8}, {5, 3, true, 7}, {0, 2, true, 1},
		// A queue that is full.
		{10000, 0, false, 10000}, {10000, 0, true, 9999}, {10000, 1, false, 10000}, {10000, 1, true, 10000}, {10000, 2, true, 10000}, {9999, 1, false, 10000}, {9999, 1, true, 9999}, {9999, 2, true, 10000}, {9999, 5, false, 10000},
		{10000, 10000, false, 10000}, {10000, 10000, true, 10000}, {0, 10000, false, 10000}, {0, 10000, true, 9999}, {1, 10000, true, 10000}, {5000, 5001, true, 10000}, {5000, 5001, false, 10000},
	}
	for _, c := range cases {
		if got := impl.QueueStep(c.waiting, c.arrive, c.open); got != c.want || got != queueAfter(c.waiting, c.arrive, c.open) {
			t.Errorf("QueueStep(%d, %d, %v) = %d; want %d", c.waiting, c.arrive, c.open, got, c.want)
		}
	}
	for _, bad := range []int{-1, -2, -10000, 10001, 20000, 1 << 32, -1 << 32, 1 << 62, math.MinInt, math.MinInt + 1, math.MaxInt, math.MaxInt - 5} {
		for _, n := range []int{-1, 0, 1, 5, 10000, 10001, math.MinInt, math.MaxInt} {
			for _, open := range []bool{false, true} {
				if a, b := impl.QueueStep(bad, n, open), impl.QueueStep(n, bad, open); a != 0 || b != 0 {
					t.Errorf("QueueStep of %d and %d, %v, is %d and %d", bad, n, open, a, b)
				}
			}
		}
	}
	source := rand.New(rand.NewSource(121))
	for range 3000 {
		waiting, arrive, open := source.Intn(10001), source.Intn([]int{2, 9, 10001}[source.Intn(3)]), source.Intn(2) == 0
		if got, want := impl.QueueStep(waiting, arrive, open), queueAfter(waiting, arrive, open); got != want {
			t.Errorf("QueueStep(%d, %d, %v) = %d; want %d", waiting, arrive, open, got, want)
		}
	}
}

func TestQueueRun(t *testing.T) {
	cases := []struct {
		arrivals []int
		open     []bool
		want     []int
	}{
		{nil, nil, nil}, {[]int{}, nil, nil}, {nil, []bool{}, nil}, {[]int{0}, []bool{true}, []int{0}}, {[]int{0}, []bool{false}, []int{0}}, {[]int{1}, []bool{true}, []int{0}}, {[]int{1}, []bool{false}, []int{1}},
		{[]int{2, 0, 1, 0, 3}, []bool{false, true, true, true, false}, []int{2, 1, 1, 0, 3}},
		// Seconds without arrivals, open and not.
		{[]int{3, 0, 0, 0, 0, 0}, []bool{false, false, true, false, true, true}, []int{3, 3, 2, 2, 1, 0}}, {[]int{1, 0, 0, 0}, []bool{false, true, true, true}, []int{1, 0, 0, 0}}, {make([]int, 5), always(false, 5), make([]int, 5)}, {make([]int, 5), always(true, 5), make([]int, 5)},
		// A queue that is full.
		{[]int{10000, 1, 0, 1, 2}, []bool{false, false, true, true, true}, []int{10000, 10000, 9999, 9999, 10000}}, {[]int{10000, 10000, 0}, []bool{true, true, true}, []int{9999, 10000, 9999}},
		// Not as many of both.
		{[]int{1}, nil, nil}, {nil, []bool{true}, nil}, {[]int{1, 2}, []bool{true}, nil}, {[]int{1}, []bool{true, false}, nil}, {[]int{}, []bool{false}, nil},
		// An arrival that is out of range: the first one, the last one, or one in between.
		{[]int{-1}, []bool{true}, nil}, {[]int{10001}, []bool{true}, nil}, {[]int{-1, 2, 3}, always(false, 3), nil}, {[]int{1, 2, 10001}, always(false, 3), nil}, {[]int{1, -1, 3}, always(true, 3), nil}, {[]int{1, 2, math.MinInt}, always(false, 3), nil}, {[]int{math.MaxInt, 2, 3}, always(true, 3), nil}, {[]int{0, 1 << 32}, always(true, 2), nil},
	}
	for _, c := range cases {
		if got := impl.QueueRun(c.arrivals, c.open); !slices.Equal(got, c.want) {
			t.Errorf("QueueRun(%v, %v) = %v; want %v", c.arrivals, c.open, got, c.want)
		}
	}
	source := rand.New(rand.NewSource(122))
	for _, seconds := range []int{0, 1, 2, 19, 500, 999, 1000, 1001, 1002, 5000} {
		arrivals, open := drawArrivals(source, seconds), drawOpen(source, seconds)
		want := []int{}
		if seconds <= 1000 {
			want = queueRun(arrivals, open)
		}
		if got := impl.QueueRun(arrivals, open); !slices.Equal(got, want) {
			t.Errorf("QueueRun of %d seconds is %v; want %v", seconds, got, want)
		}
		if got := impl.QueueRun(arrivals, append(open, true)); len(got) != 0 {
			t.Errorf("QueueRun of %d arrivals and 1 second more is %v", seconds, got)
		}
	}
	for range 1000 {
		seconds := source.Intn(40)
		arrivals, open := drawArrivals(source, seconds), drawOpen(source, seconds)
		if got, want := impl.QueueRun(arrivals, open), queueRun(arrivals, open); !slices.Equal(got, want) {
			t.Errorf("QueueRun(%v, %v) = %v; want %v", arrivals, open, got, want)
		}
	}
}

// Promise 12: a path that is always open has the shortest queue, and one that never is has the longest.
func TestAPathThatIsAlwaysOpenHasTheShortestQueue(t *testing.T) {
	source := rand.New(rand.NewSource(123))
	for range 2000 {
		seconds := 1 + source.Intn(60)
		arrivals := drawArrivals(source, seconds)
		shortest, longest := impl.QueueRun(arrivals, always(true, seconds)), impl.QueueRun(arrivals, always(false, seconds))
		open := drawOpen(source, seconds)
		queue := impl.QueueRun(arrivals, open)
		if len(shortest) != seconds || len(longest) != seconds || len(queue) != seconds {
			t.Fatalf("%v: the queues are %v, %v and %v", arrivals, shortest, longest, queue)
		}
		for i, waiting := range queue {
			if waiting < shortest[i] || waiting > longest[i] || shortest[i] < 0 || longest[i] > impl.MaxQueue {
				t.Errorf("%v, %v: at the second %d %d wait, %d if it is always open, %d if it never is", arrivals, open, i, waiting, shortest[i], longest[i])
			}
		}
		if impl.TotalWait(shortest) > impl.TotalWait(queue) || impl.TotalWait(queue) > impl.TotalWait(longest) || impl.IsServed(queue) && !impl.IsServed(shortest) {
			t.Errorf("%v, %v: in all %d wait, %d if it is always open, %d if it never is", arrivals, open, impl.TotalWait(queue), impl.TotalWait(shortest), impl.TotalWait(longest))
		}
	}
}

// The queue of a path of a plan: it is the shortest where the plan has one part.
func TestQueuesOfPlans(t *testing.T) {
	source := rand.New(rand.NewSource(124))
	for _, c := range append(examples(), somePlans(125, 60)...) {
		arrivals := drawArrivals(source, 200)
		shortest := impl.QueueRun(arrivals, always(true, 200))
		for _, one := range c.l {
			queue := impl.QueueRun(arrivals, impl.OpenIn(c.l, c.p, one.Id, source.Intn(1000), 200))
			if len(queue) != 200 || len(c.p) == 1 && !slices.Equal(queue, shortest) {
				t.Errorf("%v, %v: the queue of %d is %v, and the shortest is %v", c.l, c.p, one.Id, queue, shortest)
			}
			for i := range queue {
				if queue[i] < shortest[i] {
					t.Errorf("%v, %v: the queue of %d is %v, and the shortest is %v", c.l, c.p, one.Id, queue, shortest)
					break
				}
			}
		}
	}
}

func TestTotalWait(t *testing.T) {
	cases := []struct {
		queue []int
		want  int
	}{
		{nil, 0}, {[]int{}, 0}, {[]int{0}, 0}, {[]int{2, 1, 1, 0, 3}, 7}, {[]int{-5, 20000, 3}, 10003}, {[]int{10000}, 10000}, {[]int{10001}, 10000}, {[]int{9999}, 9999}, {[]int{-1}, 0}, {[]int{-1, 1}, 1},
		{[]int{math.MinInt}, 0}, {[]int{math.MaxInt}, 10000}, {[]int{math.MaxInt, math.MaxInt, 1}, 20001}, {[]int{math.MinInt, math.MinInt, 1}, 1}, {[]int{1 << 32, -1 << 32}, 10000}, {slices.Repeat([]int{10000}, 2000), 20000000},
	}
	for _, c := range cases {
		if got := impl.TotalWait(c.queue); got != c.want {
			t.Errorf("TotalWait(%v) = %d; want %d", c.queue, got, c.want)
		}
	}
}

func TestIsServed(t *testing.T) {
	cases := []struct {
		queue []int
		want  bool
	}{
		{nil, true}, {[]int{}, true}, {[]int{0}, true}, {[]int{1}, false}, {[]int{3, 2, 0}, true}, {[]int{0, 0, 1}, false}, {[]int{0, 10000}, false}, {[]int{10000, 0}, true},
		{[]int{-1}, false}, {[]int{0, -1}, false}, {[]int{math.MinInt}, false}, {[]int{math.MaxInt}, false}, {[]int{math.MaxInt, 0}, true}, {[]int{1 << 32}, false}, {make([]int, 2000), true},
	}
	for _, c := range cases {
		if got := impl.IsServed(c.queue); got != c.want {
			t.Errorf("IsServed(%v) = %v", c.queue, got)
		}
	}
}

// openIn is the oracle for OpenIn of a path of a plan, from a second and for seconds that are in range.
func openIn(c planned, id int, from int, seconds int) []bool {
	open := []bool{}
	for second := range seconds {
		open = append(open, lightOf(c.l, c.p, from+second, id) == 1)
	}
	return open
}

func TestOpenIn(t *testing.T) {
	cases := []struct {
		example, id, from int
		want              string
	}{
		{0, 1, 0, "ggggg..............ggggg.."}, {0, 1, 17, "..ggggg............"}, {0, 2, 6, ".ggggggg............ggg"}, {0, 1, 4, "g"}, {0, 1, 5, "."}, {0, 1, 18, "."}, {0, 1, 19, "g"}, {0, 1, 100000, "gg..............ggggg"}, {0, 1, 99999, "ggg..............g"},
		// A path that is open in the last part and in the first one, over the end of the cycle.
		{8, 2, 22, "ggggggggg............"}, {8, 2, 0, "ggggggg............gggggggggggg......"}, {7, 2, 0, "gggggggggggg............gg"}, {3, 1, 3, "ggggggggggggg"},
	}
	for _, c := range cases {
		e := examples()[c.example]
		want := []bool{}
		for _, letter := range c.want {
			want = append(want, letter == 'g')
		}
		if got := impl.OpenIn(e.l, e.p, c.id, c.from, len(want)); !slices.Equal(got, want) {
			t.Errorf("OpenIn(%v, %v, %d, %d, %d) = %v; want %v", e.l, e.p, c.id, c.from, len(want), got, want)
		}
	}
	source := rand.New(rand.NewSource(126))
	for _, c := range append(examples(), somePlans(127, 60)...) {
		cycle := cycleOf(c.l, c.p)
		for _, one := range c.l {
			from, seconds := []int{0, 1, cycle - 1, cycle, 100000, 99999, source.Intn(100001)}[source.Intn(7)], []int{0, 1, 2, cycle, 1000, source.Intn(60)}[source.Intn(6)]
			if got, want := impl.OpenIn(c.l, c.p, one.Id, from, seconds), openIn(c, one.Id, from, seconds); !slices.Equal(got, want) {
				t.Errorf("OpenIn(%v, %v, %d, %d, %d) = %v; want %v", c.l, c.p, one.Id, from, seconds, got, want)
			}
		}
	}
}

func TestOpenInOutOfRange(t *testing.T) {
	for _, c := range append(examples(), somePlans(128, 40)...) {
		id := c.l[0].Id
		for _, n := range around(0, 1000) {
			want := 0
			if n >= 0 && n <= 1000 {
				want = n
			}
			if got := impl.OpenIn(c.l, c.p, id, 0, n); len(got) != want {
				t.Errorf("OpenIn(%v, %v, %d, 0, %d) has %d elements", c.l, c.p, id, n, len(got))
			}
		}
		for _, from := range []int{math.MinInt, -100000, -1, 0, 1, 99999, 100000, 100001, 1000000, 1 << 32, math.MaxInt - 5, math.MaxInt} {
			want := 0
			if from >= 0 && from <= 100000 {
				want = 9
			}
			if got := impl.OpenIn(c.l, c.p, id, from, 9); len(got) != want {
				t.Errorf("OpenIn(%v, %v, %d, %d, 9) has %d elements", c.l, c.p, id, from, len(got))
			}
		}
		for _, other := range around(0, 20) {
			if slices.ContainsFunc(c.l, func(p impl.Path) bool { return p.Id == other }) {
				continue
			}
			if got := impl.OpenIn(c.l, c.p, other, 0, 9); len(got) != 0 {
				t.Errorf("OpenIn(%v, %v, %d, 0, 9) = %v; there is no such path", c.l, c.p, other, got)
			}
		}
	}
	for _, c := range notPlans() {
		for _, id := range []int{math.MinInt, 0, 1, 2, 3, 20, math.MaxInt} {
			if got := impl.OpenIn(c.l, c.p, id, 0, 9); len(got) != 0 {
				t.Errorf("OpenIn(%v, %v, %d, 0, 9) = %v; there is no plan", c.l, c.p, id, got)
			}
		}
	}
}

func TestQueuesLeaveTheirArguments(t *testing.T) {
	source := rand.New(rand.NewSource(129))
	for range 200 {
		seconds := source.Intn(30)
		arrivals, wholeArrivals := roomy(drawArrivals(source, seconds), 4, -77)
		open, wholeOpen := roomy(drawOpen(source, seconds+source.Intn(2)), true, false)
		numbers, lights := slices.Clone(wholeArrivals), slices.Clone(wholeOpen)
		first, second := impl.QueueRun(arrivals, open), impl.QueueRun(arrivals, open)
		want := slices.Clone(second)
		impl.TotalWait(arrivals)
		impl.IsServed(arrivals)
		spoil(first)
		if third := impl.QueueRun(arrivals, open); !slices.Equal(second, want) || !slices.Equal(third, want) {
			t.Errorf("QueueRun(%v, %v): a write to a result changes %v to %v, and the next one to %v", arrivals, open, want, second, third)
		}
		if !slices.Equal(wholeArrivals, numbers) || !slices.Equal(wholeOpen, lights) {
			t.Errorf("changed: %v to %v, or %v to %v", numbers, wholeArrivals, lights, wholeOpen)
		}
	}
	for _, c := range slices.Concat(examples(), somePlans(130, 40), notPlans()) {
		wantUntouchedPlan(t, "OpenIn", c, func(l []impl.Path, p []impl.Part) {
			first, second := impl.OpenIn(l, p, 1, 5, 60), impl.OpenIn(l, p, 1, 5, 60)
			want := slices.Clone(second)
			for i := range first[:cap(first)] {
				first[:cap(first)][i] = i%2 == 0
			}
			if third := impl.OpenIn(l, p, 1, 5, 60); !slices.Equal(second, want) || !slices.Equal(third, want) {
				t.Errorf("OpenIn(%v, %v, 1, 5, 60): a write to a result changes %v to %v, and the next one to %v", l, p, want, second, third)
			}
		})
	}
}
