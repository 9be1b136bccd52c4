package tests

import (
	"fmt"
	"math"
	"math/rand"
	"strings"
	"testing"

	"loop.example/g03006/impl"
)

// textOr returns the words with a separator between each two, or "-" if there are none.
func textOr(words []string, separator string) string {
	if len(words) == 0 {
		return "-"
	}
	return strings.Join(words, separator)
}

// numbersText is the oracle for FormatNumbers, and so on for the others.
func numbersText(l []int) string {
	var words []string
	for _, n := range l {
		words = append(words, fmt.Sprintf("%d", n))
	}
	return textOr(words, " ")
}

func lightsText(l []int) string {
	var words []string
	for _, light := range l {
		letter, ok := map[int]string{0: "r", 1: "g", 2: "c"}[light]
		if !ok {
			letter = "."
		}
		words = append(words, letter)
	}
	return textOr(words, "")
}

func planText(p []impl.Part) string {
	var words []string
	for _, one := range p {
		words = append(words, fmt.Sprintf("%s:%d", numbersText(one.Stage), one.Green))
	}
	return textOr(words, " | ")
}

func pathsText(l []impl.Path) string {
	var words []string
	for _, p := range l {
		words = append(words, impl.PathText(p))
	}
	return textOr(words, " ")
}

func controlText(x impl.Control) string {
	text := fmt.Sprintf("%s @ %d", numbersText(x.Stage), x.Since)
	if len(x.Next) > 0 {
		text += fmt.Sprintf(" > %s in %d", numbersText(x.Next), x.Left)
	}
	return text
}

func reportText(r impl.Report) string {
	return fmt.Sprintf("%d %d %s %d %d", r.Path, r.Second, lightsText([]int{r.Light}), r.Since, r.Other)
}

func townText(o impl.Town) string {
	mode := []string{"full", "blink", "dark"}[modeOf(o)]
	return fmt.Sprintf("%d %s %d %d %d %d", o.Now, mode, len(o.Paths), len(o.Wants), len(o.Record), o.Books)
}

func TestFormatNumbers(t *testing.T) {
	cases := []struct {
		l    []int
		want string
	}{
		{nil, "-"}, {[]int{}, "-"}, {[]int{0}, "0"}, {[]int{7}, "7"}, {[]int{3, -1}, "3 -1"}, {[]int{-1}, "-1"}, {[]int{5, 5, 5}, "5 5 5"}, {[]int{0, 0}, "0 0"}, {[]int{10, 9, -10, 9}, "10 9 -10 9"}, {[]int{math.MinInt, math.MaxInt, math.MinInt}, "-9223372036854775808 9223372036854775807 -9223372036854775808"}, {[]int{1 << 32}, "4294967296"},
	}
	for _, c := range cases {
		if got := impl.FormatNumbers(c.l); got != c.want || got != numbersText(c.l) {
			t.Errorf("FormatNumbers(%v) = %q; want %q", c.l, got, c.want)
		}
	}
	source := rand.New(rand.NewSource(391))
	for range 300 {
		var l []int
		for range source.Intn(30) {
			l = append(l, []int{source.Intn(9), source.Intn(2000) - 1000, source.Int(), -source.Int()}[source.Intn(4)])
		}
		if got := impl.FormatNumbers(l); got != numbersText(l) {
			t.Errorf("FormatNumbers(%v) = %q", l, got)
		}
	}
}

func TestFormatLights(t *testing.T) {
	cases := []struct {
		l    []int
		want string
	}{
		{nil, "-"}, {[]int{}, "-"}, {[]int{0}, "r"}, {[]int{1}, "g"}, {[]int{2}, "c"}, {[]int{0, 1, 2, 3, -1}, "rgc.."}, {[]int{-1}, "."}, {[]int{3}, "."}, {[]int{0, 0, 1, 1, 0}, "rrggr"}, {[]int{math.MinInt, math.MaxInt, 1 << 32, 1<<32 + 1, 256, 257}, "......"},
	}
	for _, c := range cases {
		if got := impl.FormatLights(c.l); got != c.want || got != lightsText(c.l) {
			t.Errorf("FormatLights(%v) = %q; want %q", c.l, got, c.want)
		}
	}
	for _, light := range around(0, 2) {
		if got := impl.FormatLights([]int{light, 1}); got != lightsText([]int{light})+"g" {
			t.Errorf("FormatLights of %d and 1 is %q", light, got)
		}
	}
}

func TestFormatPlan(t *testing.T) {
	cases := []struct {
		p    []impl.Part
		want string
	}{
		// No part, one, and one with an empty stage.
		{nil, "-"}, {[]impl.Part{}, "-"}, {[]impl.Part{part(5, 1)}, "1:5"}, {[]impl.Part{part(3)}, "-:3"}, {[]impl.Part{{}}, "-:0"}, {[]impl.Part{{Stage: []int{}, Green: 9}, part(9, 9)}, "-:9 | 9:9"}, {examples()[0].p, "1:5 | 2 3 4:7"}, {examples()[2].p, "1:5 | 2 4:5 | 3:7"},
		{[]impl.Part{part(-5, -1, 0), part(math.MinInt, math.MaxInt)}, "-1 0:-5 | 9223372036854775807:-9223372036854775808"},
	}
	for _, c := range cases {
		if got := impl.FormatPlan(c.p); got != c.want || got != planText(c.p) {
			t.Errorf("FormatPlan(%v) = %q; want %q", c.p, got, c.want)
		}
	}
	for _, c := range append(somePlans(392, 100), notPlans()...) {
		if got := impl.FormatPlan(c.p); got != planText(c.p) {
			t.Errorf("FormatPlan(%v) = %q", c.p, got)
		}
	}
}

func TestFormatPaths(t *testing.T) {
	l := cross()
	cases := []struct {
		l    []impl.Path
		want string
	}{
		{nil, "-"}, {[]impl.Path{}, "-"}, {l, "1c02 2c13 3w00 4b31"}, {l[:1], "1c02"}, {[]impl.Path{bus(20, 3, 0)}, "20b30"}, {[]impl.Path{l[3], l[0], l[0]}, "4b31 1c02 1c02"},
		// Nothing is written for a path that is not valid.
		{[]impl.Path{{}}, ""}, {[]impl.Path{l[0], {}, l[1]}, "1c02  2c13"}, {[]impl.Path{{}, l[1]}, " 2c13"}, {[]impl.Path{l[1], {}}, "2c13 "}, {[]impl.Path{{}, {}, {}}, "  "}, {walks(20, 3), "20w00  "}, {[]impl.Path{path(math.MinInt, math.MaxInt, 1, 1)}, ""},
	}
	for _, c := range cases {
		if got := impl.FormatPaths(c.l); got != c.want || got != pathsText(c.l) {
			t.Errorf("FormatPaths(%v) = %q; want %q", c.l, got, c.want)
		}
	}
	for _, l := range append(stagedCrossings(393, 60), notCrossings()...) {
		if got := impl.FormatPaths(l); got != pathsText(l) {
			t.Errorf("FormatPaths(%v) = %q", l, got)
		}
	}
}

func TestFormatControl(t *testing.T) {
	cases := []struct {
		x    impl.Control
		want string
	}{
		{opened(5, 1), "1 @ 5"}, {opened(0, 2, 3, 4), "2 3 4 @ 0"}, {closing([]int{1}, 5, []int{2, 3}, 2), "1 @ 5 > 2 3 in 2"}, {closing([]int{2, 3, 4}, 1000000, []int{1}, 5), "2 3 4 @ 1000000 > 1 in 5"},
		// An empty Stage, with an empty Next and without; a Left without Next; controllers that are not valid.
		{impl.Control{}, "- @ 0"}, {opened(-7), "- @ -7"}, {closing(nil, 3, []int{1}, 0), "- @ 3 > 1 in 0"}, {closing([]int{}, 0, []int{1, 1}, -1), "- @ 0 > 1 1 in -1"}, {impl.Control{Stage: []int{1}, Since: 2, Left: 9}, "1 @ 2"}, {impl.Control{Stage: []int{1}, Next: []int{}, Left: 9}, "1 @ 0"}, {closing([]int{math.MinInt}, math.MaxInt, []int{math.MaxInt}, math.MinInt), "-9223372036854775808 @ 9223372036854775807 > 9223372036854775807 in -9223372036854775808"},
	}
	for _, c := range cases {
		if got := impl.FormatControl(c.x); got != c.want || got != controlText(c.x) {
			t.Errorf("FormatControl(%v) = %q; want %q", c.x, got, c.want)
		}
	}
	for _, c := range append(someControls(394, 60), notControls()...) {
		if got := impl.FormatControl(c.x); got != controlText(c.x) {
			t.Errorf("FormatControl(%v) = %q", c.x, got)
		}
	}
}

func TestFormatReport(t *testing.T) {
	cases := []struct {
		r    impl.Report
		want string
	}{
		{report(2, 9, 2, -1, 4), "2 9 c -1 4"}, {report(1, 0, 1, 17, 0), "1 0 g 17 0"}, {report(20, 1000000, 0, -1, 0), "20 1000000 r -1 0"}, {impl.Report{}, "0 0 r 0 0"},
		// A light that does not exist.
		{report(1, 2, 3, 4, 5), "1 2 . 4 5"}, {report(1, 2, -1, 4, 5), "1 2 . 4 5"}, {report(math.MinInt, math.MaxInt, math.MinInt, math.MaxInt, -1), "-9223372036854775808 9223372036854775807 . 9223372036854775807 -1"}, {report(1, 2, 1<<32, 4, 5), "1 2 . 4 5"},
	}
	for _, c := range cases {
		if got := impl.FormatReport(c.r); got != c.want || got != reportText(c.r) {
			t.Errorf("FormatReport(%v) = %q; want %q", c.r, got, c.want)
		}
	}
}

func TestFormatTown(t *testing.T) {
	o := newTown(cross())
	with := func(change func(o *impl.Town)) impl.Town { return withTown(o, change) }
	cases := []struct {
		o    impl.Town
		want string
	}{
		// In each mode.
		{o, "0 full 4 0 1 0"}, {with(func(o *impl.Town) { o.Power = false }), "0 dark 4 0 1 0"}, {with(func(o *impl.Town) { o.Lamps = []impl.Lamp{brokenLamp(1, 0)} }), "0 blink 4 0 1 0"}, {with(func(o *impl.Town) { o.Lamps = []impl.Lamp{brokenLamp(1, 1)} }), "0 full 4 0 1 0"}, {knownTowns()[1], "9 full 4 1 3 0"}, {fullTown(60, 70, 99, 7), "99 dark 4 0 60 7"}, {with(func(o *impl.Town) { o.Wants = []impl.Want{want(1, 0), want(3, 9)} }), "0 full 4 2 1 0"},
		// Towns that are not valid.
		{impl.Town{}, "0 dark 0 0 0 0"}, {impl.Town{Power: true}, "0 full 0 0 0 0"}, {impl.Town{Power: true, Lamps: []impl.Lamp{lamp(1, 0)}}, "0 blink 0 0 0 0"}, {impl.Town{Now: -5, Books: -7, Paths: walks(1, 13), Wants: make([]impl.Want, 3), Record: make([]impl.Entry, 100)}, "-5 dark 13 3 100 -7"}, {with(func(o *impl.Town) { o.Now, o.Books = math.MinInt, math.MaxInt }), "-9223372036854775808 full 4 0 1 9223372036854775807"},
	}
	for _, c := range cases {
		if got := impl.FormatTown(c.o); got != c.want || got != townText(c.o) {
			t.Errorf("FormatTown(%v) = %q; want %q", c.o, got, c.want)
		}
	}
	for _, o := range append(someTowns(395, 100), notTowns()...) {
		if got := impl.FormatTown(o); got != townText(o) {
			t.Errorf("FormatTown(%v) = %q; want %q", o, got, townText(o))
		}
	}
}

// Promise 39: views show what there is: what differs in what a view shows has another text, and what is the same has the same one.
func TestViewsShowWhatThereIs(t *testing.T) {
	lists := map[string][]int{}
	lights := map[string][]int{}
	source := rand.New(rand.NewSource(396))
	for range 2000 {
		var l, shownLights []int
		for range source.Intn(5) {
			l, shownLights = append(l, source.Intn(12)-1), append(shownLights, source.Intn(3))
		}
		if before, met := lists[impl.FormatNumbers(l)]; met && !impl.EqualInts(before, l) {
			t.Fatalf("%v and %v have the same text", before, l)
		}
		if before, met := lights[impl.FormatLights(shownLights)]; met && !impl.EqualInts(before, shownLights) {
			t.Fatalf("%v and %v have the same text", before, shownLights)
		}
		lists[impl.FormatNumbers(l)], lights[impl.FormatLights(shownLights)] = l, shownLights
	}
	plans, controls, paths := map[string][]impl.Part{}, map[string]impl.Control{}, map[string][]impl.Path{}
	for _, c := range append(examples(), somePlans(397, 200)...) {
		plan, l := impl.FormatPlan(c.p), impl.FormatPaths(c.l)
		if before, met := plans[plan]; met && !samePlan(before, c.p) {
			t.Fatalf("%v and %v have the same text", before, c.p)
		}
		if before, met := paths[l]; met && fmt.Sprint(before) != fmt.Sprint(c.l) {
			t.Fatalf("%v and %v have the same text", before, c.l)
		}
		plans[plan], paths[l] = c.p, c.l
	}
	for _, c := range someControls(398, 200) {
		text := impl.FormatControl(c.x)
		if before, met := controls[text]; met && !sameControl(before, c.x) {
			t.Fatalf("%v and %v have the same text", before, c.x)
		}
		controls[text] = c.x
	}
	for _, o := range someTowns(399, 60) {
		for _, r := range impl.ReportAll(o, o.Now) {
			if got := impl.FormatReport(r); got != reportText(r) || got != impl.FormatReport(r) {
				t.Fatalf("FormatReport(%v) = %q", r, got)
			}
		}
		if impl.FormatTown(o) != impl.FormatTown(copyTown(o)) {
			t.Fatalf("FormatTown(%v) = %q", o, impl.FormatTown(o))
		}
	}
}

func TestViewsLeaveTheirArguments(t *testing.T) {
	for _, o := range append(someTowns(400, 30), notTowns()...) {
		wantUntouchedTown(t, "a view", o, func(o impl.Town) {
			impl.FormatNumbers(o.Control.Stage)
			impl.FormatPaths(o.Paths)
			impl.FormatControl(o.Control)
			impl.FormatTown(o)
			for _, e := range o.Record {
				impl.FormatLights(e.Lights)
			}
		})
	}
	for _, c := range append(examples(), notPlans()[:40]...) {
		wantUntouchedPlan(t, "FormatPlan", c, func(_ []impl.Path, p []impl.Part) { impl.FormatPlan(p) })
	}
}
