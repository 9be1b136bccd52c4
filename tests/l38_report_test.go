package tests

import (
	"math"
	"math/rand"
	"slices"
	"testing"

	"loop.example/g03006/impl"
)

func report(path int, second int, light int, since int, other int) impl.Report {
	return impl.Report{Path: path, Second: second, Light: light, Since: since, Other: other}
}

// reportOf is the oracle for ReportOf.
func reportOf(o impl.Town, path int, second int) (impl.Report, bool) {
	index := slices.IndexFunc(o.Paths, func(p impl.Path) bool { return p.Id == path })
	light := lightShown(o.Record, index, second)
	if !isTown(o) || second > o.Now || light < 0 {
		return impl.Report{}, false
	}
	r := report(path, second, light, greenSince(o.Record, index, second), 0)
	for i, p := range o.Paths {
		if r.Other == 0 && collide(p, o.Paths[index]) && lightShown(o.Record, i, second) != 0 {
			r.Other = p.Id
		}
	}
	return r, true
}

// seen is a town with a record of several changes, which has gone on for a while.
func seen() impl.Town {
	return withTown(newTown(cross()), func(o *impl.Town) {
		o.Now, o.Control = 30, opened(9, 1)
		o.Record = sealedUp(shown(3, 1, 0, 0, 0), shown(8, 2, 0, 0, 0), shown(10, 0, 1, 1, 1), shown(12, 0, 1, 1, 2), shown(15, 0, 0, 2, 0), shown(20, 0, 0, 0, 0), shown(21, 1, 0, 0, 0))
	})
}

func TestReportOf(t *testing.T) {
	o := seen()
	cases := []impl.Report{
		// Green from the first entry on, clearing, red beside several that conflict and are not red, and beside one that clears.
		report(1, 3, 1, 0, 0), report(1, 7, 1, 4, 0), report(1, 8, 2, -1, 0), report(1, 10, 0, -1, 2), report(1, 14, 0, -1, 2), report(1, 15, 0, -1, 3), report(1, 20, 0, -1, 0), report(1, 21, 1, 0, 0),
		report(2, 3, 0, -1, 1), report(2, 9, 0, -1, 1), report(2, 10, 1, 0, 0), report(2, 14, 1, 4, 0), report(2, 15, 0, -1, 0), report(2, 21, 0, -1, 1), report(3, 15, 2, -1, 0), report(4, 11, 1, 1, 0), report(4, 12, 2, -1, 0),
		// At Now.
		report(1, 30, 1, 9, 0), report(4, 30, 0, -1, 1),
	}
	for _, want := range cases {
		if got, ok := impl.ReportOf(o, want.Path, want.Second); !ok || got != want {
			t.Errorf("ReportOf(%d, %d) = %v, %v; want %v", want.Path, want.Second, got, ok, want)
		}
	}
	// The future, a second before the first entry, and below 0; Ids that are no path's.
	for _, second := range []int{31, 32, 1000000, 1000001, 1<<32 + 7, math.MaxInt, 2, 0, -1, -1 << 32, math.MinInt} {
		for path := range 5 {
			if got, ok := impl.ReportOf(o, path, second); ok || got != (impl.Report{}) {
				t.Errorf("ReportOf(%d, %d) = %v, %v", path, second, got, ok)
			}
		}
	}
	for _, path := range []int{0, 5, 9, -1, math.MinInt, math.MaxInt, 1<<32 + 1} {
		if got, ok := impl.ReportOf(o, path, 10); ok || got != (impl.Report{}) {
			t.Errorf("ReportOf(%d, 10) = %v, %v", path, got, ok)
		}
	}
	// A path without conflicts.
	if got, ok := impl.ReportOf(newTown(friends()), 6, 0); !ok || got != report(6, 0, 1, 0, 0) {
		t.Error(got, ok)
	}
	source := rand.New(rand.NewSource(381))
	for _, o := range append(someTowns(382, 150), notTowns()...) {
		for range 20 {
			path, second := source.Intn(22), o.Now-source.Intn(150)+2
			if len(o.Paths) > 0 && source.Intn(8) > 0 {
				path = o.Paths[source.Intn(len(o.Paths))].Id
			}
			want, can := reportOf(o, path, second)
			if got, ok := impl.ReportOf(o, path, second); ok != can || got != want {
				t.Errorf("ReportOf(%v, %d, %d) = %v, %v; want %v, %v", o, path, second, got, ok, want, can)
			}
		}
	}
}

func TestIsReport(t *testing.T) {
	o := seen()
	for _, r := range []impl.Report{report(1, 7, 1, 4, 0), report(1, 15, 0, -1, 3), report(3, 15, 2, -1, 0), report(4, 30, 0, -1, 1)} {
		if !impl.IsReport(o, r) {
			t.Errorf("IsReport(%v) is false", r)
		}
		// One that differs in each field alone.
		for _, n := range []int{-1, 1, 1 << 32, math.MinInt, 5} {
			for _, other := range []impl.Report{report(r.Path+n, r.Second, r.Light, r.Since, r.Other), report(r.Path, r.Second+20*n, r.Light, r.Since, r.Other), report(r.Path, r.Second, r.Light+n, r.Since, r.Other), report(r.Path, r.Second, r.Light, r.Since+n, r.Other), report(r.Path, r.Second, r.Light, r.Since, r.Other+n)} {
				if want, ok := reportOf(o, other.Path, other.Second); impl.IsReport(o, other) != (ok && want == other) {
					t.Errorf("IsReport(%v) = %v", other, impl.IsReport(o, other))
				}
			}
		}
		for _, other := range []impl.Town{{}, withTown(o, func(o *impl.Town) { o.Now = r.Second - 1 }), withTown(o, func(o *impl.Town) { o.Books = -1 }), withTown(o, func(o *impl.Town) { o.Record = nil }), newTown(cross())} {
			if impl.IsReport(other, r) {
				t.Errorf("IsReport(%v, %v) is true", other, r)
			}
		}
	}
	// The zero report is none, also where a report fails with it.
	if impl.IsReport(o, impl.Report{}) || impl.IsReport(impl.Town{}, impl.Report{}) || impl.IsReport(o, report(9, 10, 0, 0, 0)) {
		t.Error("the zero report")
	}
}

func TestVerdict(t *testing.T) {
	lights := []int{math.MinInt, -1, 0, 1, 2, 3, 4, 1 << 32, 1<<32 + 1, math.MaxInt}
	for _, a := range lights {
		for _, b := range lights {
			want := ""
			if a >= 0 && a <= 2 && b >= 0 && b <= 2 {
				want = map[[2]bool]string{{true, true}: "both", {true, false}: "first", {false, true}: "second", {false, false}: "neither"}[[2]bool{a == 0, b == 0}]
			}
			for _, second := range []int{0, 7, -3, math.MaxInt} {
				if got := impl.Verdict(report(1, second, a, 3, 2), report(2, second, b, -1, 9)); got != want {
					t.Errorf("Verdict of the lights %d and %d is %q; want %q", a, b, got, want)
				}
			}
			// Reports of different seconds.
			for _, seconds := range [][2]int{{7, 8}, {8, 7}, {0, -1}, {1, 1<<32 + 1}, {math.MinInt, math.MaxInt}} {
				if got := impl.Verdict(report(1, seconds[0], a, 3, 2), report(1, seconds[1], b, 3, 2)); got != "" {
					t.Errorf("Verdict of the lights %d and %d at %v is %q", a, b, seconds, got)
				}
			}
		}
	}
	if impl.Verdict(impl.Report{}, impl.Report{}) != "both" {
		t.Error("the zero reports")
	}
}

func TestReportAll(t *testing.T) {
	o := seen()
	if got, want := impl.ReportAll(o, 12), []impl.Report{report(1, 12, 0, -1, 2), report(2, 12, 1, 2, 0), report(3, 12, 1, 2, 0), report(4, 12, 2, -1, 0)}; !slices.Equal(got, want) {
		t.Errorf("ReportAll of 12 is %v; want %v", got, want)
	}
	source := rand.New(rand.NewSource(383))
	for _, o := range append(someTowns(384, 80), notTowns()...) {
		for _, second := range []int{o.Now, o.Now + 1, o.Now - source.Intn(90), 0, -1, math.MinInt, math.MaxInt} {
			var want []impl.Report
			for _, p := range o.Paths {
				if r, ok := reportOf(o, p.Id, second); ok {
					want = append(want, r)
				}
			}
			// Of one second all reports succeed or none does.
			if got := impl.ReportAll(o, second); !slices.Equal(got, want) || len(got) != 0 && len(got) != len(o.Paths) {
				t.Errorf("ReportAll(%v, %d) = %v; want %v", o, second, got, want)
			}
		}
	}
}

func TestCountLights(t *testing.T) {
	list := []impl.Report{report(1, 2, 0, 0, 0), report(1, 2, 1, 0, 0), report(3, 9, 1, 0, 0), {Light: -1}, {Light: 7}, {Light: 7}, {Light: math.MaxInt}, {Light: math.MinInt}, report(1, 1, 2, 1, 1), report(1, 2, 1, 1, 1)}
	counts := map[int]int{0: 1, 1: 3, 2: 1, -1: 1, 7: 2, math.MaxInt: 1, math.MinInt: 1}
	for _, light := range around(0, 2) {
		if got := impl.CountLights(list, light); got != counts[light] || impl.CountLights(nil, light) != 0 || impl.CountLights([]impl.Report{}, light) != 0 {
			t.Errorf("CountLights(%v, %d) = %d; want %d", list, light, got, counts[light])
		}
	}
}

// Promise 38: of two paths that conflict at most one was allowed to go, at every second for which there are reports; and the report of
// the other one names who was.
func TestOfTwoPathsThatConflictAtMostOneWasAllowedToGo(t *testing.T) {
	source := rand.New(rand.NewSource(385))
	verdicts := map[string]int{}
	for _, o := range someTowns(386, 150) {
		for range 40 {
			o, _ = impl.ApplyEvent(o, someEvents(source, o.Paths, 1)[0])
		}
		second := o.Record[source.Intn(len(o.Record))].Second + source.Intn(3)
		all := impl.ReportAll(o, second)
		for i, r := range all {
			for j, s := range all {
				verdict := impl.Verdict(r, s)
				conflict := impl.Conflict(o.Paths[i], o.Paths[j])
				if conflict && (verdict == "neither" || verdict == "") || verdict == "neither" != (r.Light != impl.LtRed && s.Light != impl.LtRed) {
					t.Fatalf("%v: Verdict(%v, %v) is %q", o, r, s, verdict)
				}
				if conflict && verdict == "first" && (r.Other == 0 || r.Other > s.Path) || conflict && verdict != "both" && r.Light != impl.LtRed && r.Other != 0 {
					t.Fatalf("%v: Verdict(%v, %v) is %q", o, r, s, verdict)
				}
				verdicts[verdict]++
			}
			if !impl.IsReport(o, r) {
				t.Fatalf("IsReport(%v, %v) is false", o, r)
			}
		}
		if impl.CountLights(all, impl.LtRed)+impl.CountLights(all, impl.LtGreen)+impl.CountLights(all, impl.LtClear) != len(all) {
			t.Fatalf("of %v some have no light", all)
		}
	}
	if min(verdicts["neither"], verdicts["first"], verdicts["second"], verdicts["both"]) < 100 {
		t.Error(verdicts)
	}
}

func TestReportsAreNewMemory(t *testing.T) {
	for _, o := range append(someTowns(387, 30), notTowns()...) {
		wantUntouchedTown(t, "a report", o, func(o impl.Town) {
			r, _ := impl.ReportOf(o, 1, o.Now)
			impl.IsReport(o, r)
			for _, second := range []int{o.Now, o.Now + 1, 0} {
				wantOwnList(t, "ReportAll", report(7, 7, 7, 7, 7), func() []impl.Report { return impl.ReportAll(o, second) })
			}
			wantUntouchedList(t, "CountLights", impl.ReportAll(o, o.Now), report(1, 1, 1, 1, 1), func(list []impl.Report) { impl.CountLights(list, 1) })
		})
	}
}
