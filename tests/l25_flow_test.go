package tests

import (
	"math"
	"math/rand"
	"slices"
	"testing"

	"loop.example/g03006/impl"
)

// onRoad returns a car on the street with an index.
func onRoad(id int, street int, left int, path int) impl.Car {
	return impl.Car{Id: id, Street: street, Left: left, Path: path}
}

// driven is streets with cars on them.
type driven struct {
	l    []impl.Street
	cars []impl.Car
}

// areCars is the oracle for AreCars.
func areCars(c driven) bool {
	if !areStreets(c.l) || len(c.cars) > 30 {
		return false
	}
	for i, one := range c.cars {
		if one.Id < 1 || one.Id > 999 || i > 0 && one.Id <= c.cars[i-1].Id || one.Path < 1 || one.Path > 20 {
			return false
		}
		if one.Street < 0 || one.Street >= len(c.l) || one.Left < 0 || one.Left > c.l[one.Street].Seconds {
			return false
		}
	}
	return true
}

// moveCars is the oracle for MoveCars of cars that are valid: on each street it looks for the least Id.
func moveCars(cars []impl.Car, open []int) ([]impl.Car, int) {
	var left []impl.Car
	passed := 0
	for _, one := range cars {
		least := one.Id
		for _, other := range cars {
			if other.Street == one.Street && other.Left == 0 {
				least = min(least, other.Id)
			}
		}
		switch {
		case one.Left > 0:
			left = append(left, onRoad(one.Id, one.Street, one.Left-1, one.Path))
		case least == one.Id && slices.Contains(open, one.Path):
			passed++
		default:
			left = append(left, one)
		}
	}
	return left, passed
}

// runCars is the oracle for RunCars.
func runCars(c driven, open []int, seconds int) ([]impl.Car, int) {
	cars, passed := c.cars, 0
	if seconds > 1000 || !areCars(c) {
		return cars, 0
	}
	for range max(seconds, 0) {
		var more int
		cars, more = moveCars(cars, open)
		passed += more
	}
	return cars, passed
}

// drawCars returns cars on streets, many of them at the end.
func drawCars(source *rand.Rand, l []impl.Street) []impl.Car {
	var cars []impl.Car
	if len(l) == 0 {
		return nil
	}
	streets := 1 + source.Intn(len(l))
	ids := source.Perm(999)[:[]int{0, 1, 30, source.Intn(31), source.Intn(8)}[source.Intn(5)]]
	slices.Sort(ids)
	for _, id := range ids {
		s := source.Intn(streets)
		cars = append(cars, onRoad(1+id, s, []int{0, 0, l[s].Seconds, source.Intn(1 + l[s].Seconds), min(1, l[s].Seconds)}[source.Intn(5)], 1+source.Intn(20)))
	}
	return cars
}

// drawOpenPaths returns a list of Ids that can be open, some of them twice, and some that are no path's.
func drawOpenPaths(source *rand.Rand) []int {
	var open []int
	for range source.Intn(30) {
		open = append(open, 1+source.Intn(20))
	}
	return append(open, []int{0, 21, -1, math.MinInt, math.MaxInt, 1<<32 + 4}[:source.Intn(7)]...)
}

// twoStreets leads from 1 to 2 in ten seconds, and on to 3 in five.
func twoStreets() []impl.Street { return []impl.Street{street(1, 2, 10), street(2, 3, 5)} }

// someDriven are streets with cars for which AreCars holds.
func someDriven(seed int64, count int) []driven {
	source := rand.New(rand.NewSource(seed))
	l := twoStreets()
	full := driven{bothWays(), nil}
	for i := range 30 {
		full.cars = append(full.cars, onRoad(970+i, i/2, i%2, 1+i%20))
	}
	list := []driven{
		{nil, nil}, {l, nil}, full, {l, []impl.Car{onRoad(1, 0, 0, 4), onRoad(2, 0, 0, 4), onRoad(3, 1, 0, 5), onRoad(4, 1, 1, 4)}},
		{l, []impl.Car{onRoad(1, 0, 10, 1), onRoad(2, 1, 5, 20), onRoad(998, 0, 0, 20), onRoad(999, 1, 0, 1)}},
	}
	for i, n := range someNets(seed, count) {
		list = append(list, driven{n, drawCars(source, n)})
		if i%3 == 0 {
			list = append(list, driven{bothWays(), drawCars(source, bothWays())})
		}
	}
	return list
}

// notDriven are streets with cars of which one cannot be there.
func notDriven() []driven {
	l := twoStreets()
	good := []impl.Car{onRoad(5, 0, 0, 4), onRoad(7, 1, 5, 20), onRoad(9, 0, 10, 1)}
	var list []driven
	bad := []impl.Car{onRoad(5, 1, 1, 1), onRoad(7, 0, 1, 1), onRoad(9, 0, 10, 1), onRoad(6, 0, 11, 4), onRoad(6, 1, 6, 4), {}}
	for _, n := range []int{-1, math.MinInt, math.MaxInt, 1 << 32, 1<<32 + 6} {
		bad = append(bad, onRoad(n, 0, 5, 4), onRoad(6, n, 5, 4), onRoad(6, 0, n, 4), onRoad(6, 0, 5, n))
	}
	bad = append(bad, onRoad(0, 0, 5, 4), onRoad(1000, 0, 5, 4), onRoad(6, 2, 5, 4), onRoad(6, 2, 0, 4), onRoad(6, 0, 5, 0), onRoad(6, 0, 5, 21))
	for _, one := range bad {
		list = append(list, driven{l, []impl.Car{one}})
		for i := range len(good) + 1 {
			list = append(list, driven{l, slices.Insert(slices.Clone(good), i, one)})
		}
	}
	list = slices.DeleteFunc(list, areCars)
	many := driven{l, nil}
	for i := range 31 {
		many.cars = append(many.cars, onRoad(1+i, i%2, i%3, 4))
	}
	list = append(list, many, driven{l, []impl.Car{good[1], good[0], good[2]}}, driven{l, []impl.Car{good[0], good[2], good[1]}}, driven{nil, good}, driven{l[:1], good}, driven{l, make([]impl.Car, 1000)})
	for _, n := range notNets() {
		list = append(list, driven{n, nil}, driven{n, good}, driven{n, []impl.Car{onRoad(1, 0, 0, 4)}})
	}
	return list
}

func TestAreCars(t *testing.T) {
	if impl.MaxCars != 30 {
		t.Error(impl.MaxCars)
	}
	for _, c := range someDriven(227, 150) {
		if !impl.AreCars(c.l, c.cars) || !areCars(c) {
			t.Errorf("AreCars(%v, %v) is false", c.l, c.cars)
		}
	}
	for _, c := range notDriven() {
		if impl.AreCars(c.l, c.cars) || areCars(c) {
			t.Errorf("AreCars(%v, %v) is true", c.l, c.cars)
		}
	}
	for _, n := range append(around(0, 20), 998, 999, 1000, 1001) {
		for _, one := range []impl.Car{onRoad(n, 0, 5, 4), onRoad(6, n, 5, 4), onRoad(6, 0, n, 4), onRoad(6, 1, n, 4), onRoad(6, 0, 5, n)} {
			if c := (driven{twoStreets(), []impl.Car{one}}); impl.AreCars(c.l, c.cars) != areCars(c) {
				t.Errorf("AreCars(%v, %v) = %v", c.l, c.cars, impl.AreCars(c.l, c.cars))
			}
		}
	}
}

func TestMoveCars(t *testing.T) {
	l := twoStreets()
	first, second := onRoad(1, 0, 0, 4), onRoad(2, 0, 0, 6)
	other := onRoad(3, 1, 0, 5)
	cases := []struct {
		cars   []impl.Car
		open   []int
		want   []impl.Car
		passed int
	}{
		{nil, []int{4}, nil, 0}, {[]impl.Car{first}, []int{4}, nil, 1}, {[]impl.Car{first}, nil, []impl.Car{first}, 0}, {[]impl.Car{first}, []int{5, 6}, []impl.Car{first}, 0},
		// Two at the end of one street: the first one passes, or holds the second one up.
		{[]impl.Car{first, second}, []int{4, 6}, []impl.Car{second}, 1}, {[]impl.Car{first, second}, []int{4}, []impl.Car{second}, 1}, {[]impl.Car{first, second}, []int{6}, []impl.Car{first, second}, 0}, {[]impl.Car{first, second}, nil, []impl.Car{first, second}, 0},
		// At the ends of two streets.
		{[]impl.Car{first, second, other}, []int{4, 5, 6}, []impl.Car{second}, 2}, {[]impl.Car{first, second, other}, []int{5, 6}, []impl.Car{first, second}, 1}, {[]impl.Car{first, other}, []int{5, 4}, nil, 2},
		// One that comes to the end just now does not pass, nor does it hold up another one.
		{[]impl.Car{onRoad(1, 0, 1, 4)}, []int{4}, []impl.Car{first}, 0}, {[]impl.Car{onRoad(1, 0, 1, 4), second}, []int{4, 6}, []impl.Car{first}, 1}, {[]impl.Car{onRoad(1, 0, 1, 4), second}, []int{4}, []impl.Car{first, second}, 0}, {[]impl.Car{onRoad(1, 0, 10, 4), onRoad(2, 1, 5, 4)}, []int{4}, []impl.Car{onRoad(1, 0, 9, 4), onRoad(2, 1, 4, 4)}, 0},
		// Open twice, and Ids that are no path's.
		{[]impl.Car{first, onRoad(2, 0, 0, 4)}, []int{4, 4, 4}, []impl.Car{onRoad(2, 0, 0, 4)}, 1}, {[]impl.Car{first, other}, []int{0, 21, -4, math.MinInt, math.MaxInt, 1<<32 + 4, 5}, []impl.Car{first}, 1}, {[]impl.Car{onRoad(1, 0, 0, 1), onRoad(2, 1, 0, 20)}, []int{20, 1}, nil, 2}, {[]impl.Car{onRoad(1, 0, 0, 1), onRoad(2, 1, 0, 20)}, []int{0, 21, 2, 19}, []impl.Car{onRoad(1, 0, 0, 1), onRoad(2, 1, 0, 20)}, 0},
		// Those that are left are in order, whatever they do.
		{[]impl.Car{onRoad(1, 1, 0, 4), onRoad(2, 0, 3, 4), onRoad(3, 0, 0, 4), onRoad(4, 1, 2, 4), onRoad(5, 1, 0, 4), onRoad(6, 0, 0, 4)}, []int{4}, []impl.Car{onRoad(2, 0, 2, 4), onRoad(4, 1, 1, 4), onRoad(5, 1, 0, 4), onRoad(6, 0, 0, 4)}, 2},
	}
	for _, c := range cases {
		if got, passed := impl.MoveCars(l, c.cars, c.open); passed != c.passed || !slices.Equal(got, c.want) {
			t.Errorf("MoveCars(%v, %v) = %v, %d; want %v, %d", c.cars, c.open, got, passed, c.want, c.passed)
		}
	}
	source := rand.New(rand.NewSource(228))
	for _, c := range someDriven(229, 300) {
		open := drawOpenPaths(source)
		want, count := moveCars(c.cars, open)
		if got, passed := impl.MoveCars(c.l, c.cars, open); passed != count || !slices.Equal(got, want) {
			t.Errorf("MoveCars(%v, %v, %v) = %v, %d; want %v, %d", c.l, c.cars, open, got, passed, want, count)
		}
	}
	for _, c := range notDriven() {
		if got, passed := impl.MoveCars(c.l, c.cars, []int{1, 4, 20}); passed != 0 || !slices.Equal(got, c.cars) {
			t.Errorf("MoveCars(%v, %v) = %v, %d", c.l, c.cars, got, passed)
		}
	}
}

func TestWaitingOn(t *testing.T) {
	cars := []impl.Car{onRoad(1, 0, 0, 4), onRoad(2, 0, 0, 4), onRoad(3, 1, 0, 5), onRoad(4, 1, 1, 4), onRoad(5, 0, 10, 4), onRoad(5, -3, 0, 99), onRoad(0, math.MinInt, 0, 0), onRoad(-1, math.MaxInt, 0, 0), onRoad(7, 2, -1, 1), onRoad(8, 2, math.MinInt, 1)}
	for _, c := range [][2]int{{0, 2}, {1, 1}, {2, 0}, {3, 0}, {-1, 0}, {-3, 1}, {math.MinInt, 1}, {math.MaxInt, 1}, {1 << 32, 0}} {
		if got := impl.WaitingOn(cars, c[0]); got != c[1] || impl.WaitingOn(nil, c[0]) != 0 {
			t.Errorf("WaitingOn(%v, %d) = %d; want %d", cars, c[0], got, c[1])
		}
	}
	for _, c := range append(someDriven(230, 100), notDriven()...) {
		for street := -1; street <= 17; street++ {
			want := 0
			for _, one := range c.cars {
				if one.Left == 0 && one.Street == street {
					want++
				}
			}
			if got := impl.WaitingOn(c.cars, street); got != want {
				t.Errorf("WaitingOn(%v, %d) = %d; want %d", c.cars, street, got, want)
			}
		}
	}
}

func TestEnterCar(t *testing.T) {
	l := twoStreets()
	cars := []impl.Car{onRoad(3, 0, 0, 4), onRoad(5, 1, 5, 20)}
	cases := []struct {
		cars             []impl.Car
		id, street, path int
		want             []impl.Car
	}{
		// First, between and last, and alone.
		{cars, 1, 0, 1, []impl.Car{onRoad(1, 0, 10, 1), cars[0], cars[1]}}, {cars, 2, 1, 20, []impl.Car{onRoad(2, 1, 5, 20), cars[0], cars[1]}}, {cars, 4, 0, 4, []impl.Car{cars[0], onRoad(4, 0, 10, 4), cars[1]}}, {cars, 6, 1, 4, []impl.Car{cars[0], cars[1], onRoad(6, 1, 5, 4)}}, {cars, 999, 1, 4, []impl.Car{cars[0], cars[1], onRoad(999, 1, 5, 4)}}, {nil, 7, 0, 9, []impl.Car{onRoad(7, 0, 10, 9)}},
		// An Id that is there, and others that cannot be.
		{cars, 3, 1, 4, nil}, {cars, 5, 1, 4, nil}, {cars, 0, 1, 4, nil}, {cars, 1000, 1, 4, nil}, {cars, -1, 1, 4, nil}, {cars, math.MinInt, 1, 4, nil}, {cars, math.MaxInt, 1, 4, nil}, {cars, 1<<32 + 4, 1, 4, nil},
		{cars, 4, 2, 4, nil}, {cars, 4, -1, 4, nil}, {cars, 4, math.MinInt, 4, nil}, {cars, 4, math.MaxInt, 4, nil}, {cars, 4, 1 << 32, 4, nil}, {cars, 4, 1, 0, nil}, {cars, 4, 1, 21, nil}, {cars, 4, 1, -1, nil}, {cars, 4, 1, math.MinInt, nil}, {cars, 4, 1, math.MaxInt, nil},
	}
	for _, c := range cases {
		want := c.want
		if want == nil {
			want = c.cars
		}
		if got, ok := impl.EnterCar(l, c.cars, c.id, c.street, c.path); ok != (c.want != nil) || !slices.Equal(got, want) {
			t.Errorf("EnterCar(%v, %d, %d, %d) = %v, %v; want %v", c.cars, c.id, c.street, c.path, got, ok, want)
		}
	}
	source := rand.New(rand.NewSource(231))
	entered, full := 0, 0
	for _, c := range append(someDriven(232, 300), notDriven()...) {
		for range 6 {
			id, s, path := source.Intn(1001), source.Intn(18)-1, source.Intn(22)
			want, can := c.cars, false
			if areCars(c) && s >= 0 && s < len(c.l) {
				more := append(slices.Clone(c.cars), onRoad(id, s, c.l[s].Seconds, path))
				slices.SortStableFunc(more, func(a impl.Car, b impl.Car) int { return a.Id - b.Id })
				if can = areCars(driven{c.l, more}); can {
					want = more
				}
			}
			got, ok := impl.EnterCar(c.l, c.cars, id, s, path)
			if ok != can || !slices.Equal(got, want) {
				t.Errorf("EnterCar(%v, %v, %d, %d, %d) = %v, %v; want %v, %v", c.l, c.cars, id, s, path, got, ok, want, can)
			}
			if ok {
				entered++
			}
			if len(c.cars) == 30 {
				full++
			}
		}
	}
	if entered < 200 || full < 200 {
		t.Error(entered, full)
	}
}

func TestRunCars(t *testing.T) {
	l := twoStreets()
	cars := []impl.Car{onRoad(1, 0, 0, 4), onRoad(2, 0, 0, 4), onRoad(3, 1, 0, 5), onRoad(4, 1, 1, 4)}
	cases := []struct {
		open    []int
		seconds int
		want    []impl.Car
		passed  int
	}{
		{[]int{4, 5}, 0, cars, 0}, {[]int{4, 5}, 1, []impl.Car{cars[1], onRoad(4, 1, 0, 4)}, 2}, {[]int{4, 5}, 2, nil, 4}, {[]int{4, 5}, 3, nil, 4}, {[]int{4, 5}, 1000, nil, 4}, {[]int{4}, 1000, []impl.Car{cars[2], onRoad(4, 1, 0, 4)}, 2}, {[]int{5}, 2, []impl.Car{cars[0], cars[1], onRoad(4, 1, 0, 4)}, 1}, {nil, 1000, []impl.Car{cars[0], cars[1], cars[2], onRoad(4, 1, 0, 4)}, 0},
		{[]int{4, 5}, 1001, cars, 0}, {[]int{4, 5}, -1, cars, 0}, {[]int{4, 5}, math.MinInt, cars, 0}, {[]int{4, 5}, math.MaxInt, cars, 0}, {[]int{4, 5}, 1<<32 + 1, cars, 0},
	}
	for _, c := range cases {
		if got, passed := impl.RunCars(l, cars, c.open, c.seconds); passed != c.passed || !slices.Equal(got, c.want) {
			t.Errorf("RunCars(%v, %v, %d) = %v, %d; want %v, %d", cars, c.open, c.seconds, got, passed, c.want, c.passed)
		}
	}
	source := rand.New(rand.NewSource(233))
	for _, c := range append(someDriven(234, 100), notDriven()...) {
		open := drawOpenPaths(source)
		for _, seconds := range []int{0, 1, 2, source.Intn(40), source.Intn(340), 1000, 1001, -1} {
			want, count := runCars(c, open, seconds)
			if got, passed := impl.RunCars(c.l, c.cars, open, seconds); passed != count || !slices.Equal(got, want) {
				t.Errorf("RunCars(%v, %v, %v, %d) = %v, %d; want %v, %d", c.l, c.cars, open, seconds, got, passed, want, count)
			}
		}
	}
}

// Promise 25: no car is lost: whoever was there passed or still is there, on the same street with the same path, and whoever
// waits passes when its path is open for long enough.
func TestNoCarIsLost(t *testing.T) {
	source := rand.New(rand.NewSource(235))
	all := 0
	for _, c := range someDriven(236, 60) {
		cars, entered, passed := c.cars, len(c.cars), 0
		for range 60 {
			if len(c.l) > 0 {
				more, ok := impl.EnterCar(c.l, cars, 1+source.Intn(999), source.Intn(len(c.l)), 1+source.Intn(20))
				if ok {
					entered++
				}
				cars = more
			}
			open := drawOpenPaths(source)
			after, gone := impl.MoveCars(c.l, cars, open)
			if len(after)+gone != len(cars) || !impl.AreCars(c.l, after) {
				t.Fatalf("MoveCars(%v, %v, %v) = %v, %d", c.l, cars, open, after, gone)
			}
			for _, one := range cars {
				i := slices.IndexFunc(after, func(other impl.Car) bool { return other.Id == one.Id })
				if i < 0 && (one.Left != 0 || !slices.Contains(open, one.Path)) || i >= 0 && after[i] != onRoad(one.Id, one.Street, max(one.Left-1, 0), one.Path) {
					t.Fatalf("MoveCars(%v, %v, %v) = %v: %v", c.l, cars, open, after, one)
				}
			}
			cars, passed = after, passed+gone
		}
		if len(cars)+passed != entered {
			t.Fatalf("%v: %d entered, %d passed, and %v are left", c.l, entered, passed, cars)
		}
		every := []int{1, 2, 3, 4, 5, 6, 7, 8, 9, 10, 11, 12, 13, 14, 15, 16, 17, 18, 19, 20}
		left, last := impl.RunCars(c.l, cars, every, 330)
		if len(left) != 0 || passed+last != entered {
			t.Fatalf("%v, %v: %v are left", c.l, cars, left)
		}
		all += entered
	}
	if all < 500 {
		t.Error(all)
	}
}

func TestCarsAreNewMemory(t *testing.T) {
	for _, c := range append(someDriven(237, 40), notDriven()...) {
		wantUntouchedList(t, "a function of streets with cars", c.l, street(5, 6, 7), func(l []impl.Street) {
			wantUntouchedList(t, "a function of cars", c.cars, onRoad(999, 0, 0, 4), func(cars []impl.Car) {
				wantUntouchedList(t, "a function of open paths", []int{4, 1, 20, 4}, 5, func(open []int) {
					over := onRoad(77, 7, 7, 7)
					impl.AreCars(l, cars)
					impl.WaitingOn(cars, 0)
					wantOwnList(t, "MoveCars", over, func() []impl.Car { list, _ := impl.MoveCars(l, cars, open); return list })
					wantOwnList(t, "EnterCar", over, func() []impl.Car { list, _ := impl.EnterCar(l, cars, 500, 0, 4); return list })
					for _, seconds := range []int{0, 5, 1001} {
						wantOwnList(t, "RunCars", over, func() []impl.Car { list, _ := impl.RunCars(l, cars, open, seconds); return list })
					}
				})
			})
		})
	}
}
