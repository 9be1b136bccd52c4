package tests

import (
	"math"
	"math/rand"
	"slices"
	"testing"

	"loop.example/g03006/impl"
)

func link(peer int, seq int, heard int, offset int) impl.Link {
	return impl.Link{Peer: peer, Seq: seq, Heard: heard, Offset: offset}
}

// isLink is the oracle for IsLink.
func isLink(k impl.Link) bool {
	return k.Peer >= 1 && k.Peer <= 8 && k.Seq >= 0 && k.Seq <= 1000000 && k.Heard >= 0 && k.Heard <= 1000000 && k.Offset >= 0 && k.Offset <= 200
}

// hearLink is the oracle for HearLink.
func hearLink(k impl.Link, seq int, now int, offset int) (impl.Link, bool) {
	after := link(k.Peer, seq, now, offset)
	if isLink(k) && isLink(after) && seq > k.Seq && now >= k.Heard {
		return after, true
	}
	return k, false
}

// linkState is the oracle for LinkState.
func linkState(k impl.Link, now int) int {
	switch {
	case !isLink(k) || now < k.Heard || now > 1000000 || now-k.Heard > 300:
		return 2
	case now-k.Heard > 30:
		return 1
	}
	return 0
}

// drawLink returns a link that is valid.
func drawLink(source *rand.Rand) impl.Link {
	number := func(most int) int { return []int{0, most, source.Intn(most + 1), source.Intn(20)}[source.Intn(4)] }
	return link(1+source.Intn(8), number(1000000), number(1000000), number(200))
}

// notLinks are links of which one number is out of range.
func notLinks() []impl.Link {
	list := []impl.Link{{}, link(math.MinInt, math.MinInt, math.MinInt, math.MinInt), link(math.MaxInt, math.MaxInt, math.MaxInt, math.MaxInt)}
	for _, n := range []int{-1, math.MinInt, math.MaxInt, 1000001, 1<<32 + 5} {
		list = append(list, link(n, 5, 100, 40), link(3, n, 100, 40), link(3, 5, n, 40), link(3, 5, 100, n))
	}
	return append(list, link(0, 5, 100, 40), link(9, 5, 100, 40), link(3, 5, 100, 201))
}

func TestLinkLimits(t *testing.T) {
	if impl.LkStep != 0 || impl.LkFree != 1 || impl.LkAlone != 2 {
		t.Error(impl.LkStep, impl.LkFree, impl.LkAlone)
	}
}

func TestIsLink(t *testing.T) {
	for _, k := range []impl.Link{link(1, 0, 0, 0), link(8, 1000000, 1000000, 200), link(3, 5, 100, 40), link(1, 1000000, 0, 200), link(8, 0, 1000000, 0)} {
		if !impl.IsLink(k) || !isLink(k) {
			t.Errorf("IsLink(%v) is false", k)
		}
	}
	for _, k := range notLinks() {
		if impl.IsLink(k) || isLink(k) {
			t.Errorf("IsLink(%v) is true", k)
		}
	}
	for _, n := range append(append(around(1, 200), around(999995, 1000000)...), 0) {
		for _, k := range []impl.Link{link(n, 5, 100, 40), link(3, n, 100, 40), link(3, 5, n, 40), link(3, 5, 100, n)} {
			if got := impl.IsLink(k); got != isLink(k) {
				t.Errorf("IsLink(%v) = %v", k, got)
			}
		}
	}
}

func TestHearLink(t *testing.T) {
	k := link(3, 5, 100, 40)
	cases := []struct {
		k                impl.Link
		seq, now, offset int
		ok               bool
	}{
		{k, 6, 120, 50, true}, {k, 1000000, 1000000, 200, true}, {k, 6, 100, 0, true}, {k, 6, 100, 40, true}, {link(1, 0, 0, 0), 1, 0, 0, true}, {link(8, 999999, 1000000, 7), 1000000, 1000000, 7, true},
		// The number of the last message, one less, and one more than the greatest.
		{k, 5, 120, 50, false}, {k, 4, 120, 50, false}, {k, 0, 120, 50, false}, {k, -1, 120, 50, false}, {k, 1000001, 120, 50, false}, {link(1, 1000000, 0, 0), 1000000, 5, 5, false}, {link(1, 1000000, 0, 0), 1000001, 5, 5, false}, {k, math.MinInt, 120, 50, false}, {k, math.MaxInt, 120, 50, false}, {k, 1<<32 + 6, 120, 50, false},
		// Before the last one was heard, and behind the last second.
		{k, 6, 99, 50, false}, {k, 6, -1, 50, false}, {k, 6, 0, 50, false}, {k, 6, 1000001, 50, false}, {k, 6, math.MinInt, 50, false}, {k, 6, math.MaxInt, 50, false}, {k, 6, 1<<32 + 120, 50, false},
		// An offset that cannot be.
		{k, 6, 120, 201, false}, {k, 6, 120, -1, false}, {k, 6, 120, math.MinInt, false}, {k, 6, 120, math.MaxInt, false},
	}
	for _, c := range cases {
		want := c.k
		if c.ok {
			want = link(c.k.Peer, c.seq, c.now, c.offset)
		}
		if got, ok := impl.HearLink(c.k, c.seq, c.now, c.offset); ok != c.ok || got != want {
			t.Errorf("HearLink(%v, %d, %d, %d) = %v, %v; want %v, %v", c.k, c.seq, c.now, c.offset, got, ok, want, c.ok)
		}
	}
	source := rand.New(rand.NewSource(218))
	heard := 0
	for range 5000 {
		k := drawLink(source)
		seq, now, offset := k.Seq-1+source.Intn(4), k.Heard-1+source.Intn(5), []int{-1, 0, 200, 201, source.Intn(201)}[source.Intn(5)]
		want, can := hearLink(k, seq, now, offset)
		got, ok := impl.HearLink(k, seq, now, offset)
		if ok != can || got != want || !impl.IsLink(got) {
			t.Errorf("HearLink(%v, %d, %d, %d) = %v, %v; want %v, %v", k, seq, now, offset, got, ok, want, can)
		}
		if ok {
			heard++
		}
	}
	if heard < 500 {
		t.Error(heard)
	}
	for _, k := range notLinks() {
		for _, seq := range []int{1, 6, 1000000, math.MaxInt} {
			if got, ok := impl.HearLink(k, seq, 120, 50); ok || got != k {
				t.Errorf("HearLink(%v, %d, 120, 50) = %v, %v", k, seq, got, ok)
			}
		}
	}
}

func TestLinkState(t *testing.T) {
	k, late := link(3, 5, 100, 40), link(1, 0, 999990, 0)
	cases := []struct {
		k         impl.Link
		now, want int
	}{
		{k, 100, 0}, {k, 99, 2}, {k, 101, 0}, {k, 129, 0}, {k, 130, 0}, {k, 131, 1}, {k, 399, 1}, {k, 400, 1}, {k, 401, 2}, {k, 1000000, 2}, {k, 1000001, 2}, {k, 0, 2}, {k, -1, 2}, {k, math.MinInt, 2}, {k, math.MaxInt, 2}, {k, 1<<32 + 100, 2},
		{late, 1000000, 0}, {late, 1000001, 2}, {late, 999989, 2}, {link(1, 0, 999969, 0), 1000000, 1}, {link(1, 0, 999700, 0), 1000000, 1}, {link(1, 0, 999699, 0), 1000000, 2}, {link(1, 0, 1000000, 0), 1000000, 0}, {link(8, 0, 0, 200), 0, 0}, {link(8, 0, 0, 200), 300, 1}, {link(8, 0, 0, 200), 301, 2},
	}
	for _, c := range cases {
		if got := impl.LinkState(c.k, c.now); got != c.want || got != linkState(c.k, c.now) {
			t.Errorf("LinkState(%v, %d) = %d; want %d", c.k, c.now, got, c.want)
		}
	}
	source := rand.New(rand.NewSource(219))
	for range 3000 {
		k := drawLink(source)
		now := k.Heard + source.Intn(400) - 20
		if got, want := impl.LinkState(k, now), linkState(k, now); got != want {
			t.Errorf("LinkState(%v, %d) = %d; want %d", k, now, got, want)
		}
	}
	for _, k := range notLinks() {
		for _, now := range []int{0, 5, 100, 110, 300, k.Heard, k.Heard + 1, math.MinInt, math.MaxInt} {
			if got := impl.LinkState(k, now); got != 2 {
				t.Errorf("LinkState(%v, %d) = %d", k, now, got)
			}
		}
	}
}

func TestHearAll(t *testing.T) {
	k := link(3, 5, 100, 40)
	cases := []struct {
		k           impl.Link
		seqs        []int
		now, offset int
		want        impl.Link
	}{
		{k, nil, 130, 60, k}, {k, []int{}, 130, 60, k}, {k, []int{6}, 130, 60, link(3, 6, 130, 60)}, {k, []int{7, 8, 9}, 130, 60, link(3, 9, 130, 60)}, {k, []int{9, 7, 5, 8}, 130, 60, link(3, 9, 130, 60)}, {k, []int{6, 6, 6}, 130, 60, link(3, 6, 130, 60)}, {k, []int{4, 5, 5, 0}, 130, 60, k}, {k, []int{9, 9, 7, 9}, 100, 60, link(3, 9, 100, 60)},
		// Numbers that are none change nothing, also between others.
		{k, []int{1000001, 7, math.MaxInt, 8, -1, math.MinInt}, 130, 60, link(3, 8, 130, 60)}, {k, []int{1000000, 1000001}, 130, 60, link(3, 1000000, 130, 60)}, {k, []int{math.MinInt, math.MaxInt}, 130, 60, k},
		{k, []int{6, 7}, 99, 60, k}, {k, []int{6, 7}, 1000001, 60, k}, {k, []int{6, 7}, 130, 201, k}, {k, []int{6, 7}, 130, -1, k}, {link(0, 5, 100, 40), []int{6, 7}, 130, 60, link(0, 5, 100, 40)},
	}
	for _, c := range cases {
		if got := impl.HearAll(c.k, c.seqs, c.now, c.offset); got != c.want {
			t.Errorf("HearAll(%v, %v, %d, %d) = %v; want %v", c.k, c.seqs, c.now, c.offset, got, c.want)
		}
	}
	for _, k := range notLinks() {
		if got := impl.HearAll(k, []int{1, 6, 7, 1000000}, 130, 60); got != k {
			t.Errorf("HearAll(%v) = %v", k, got)
		}
	}
}

// drawSeqs returns numbers of messages, among them some that come again, old ones, and some that are out of range.
func drawSeqs(source *rand.Rand, k impl.Link) []int {
	var seqs []int
	for range source.Intn(8) {
		seqs = append(seqs, []int{k.Seq, k.Seq - 1, k.Seq + 1 + source.Intn(5), k.Seq + 1 + source.Intn(5), source.Intn(1000001), 1000000, 1000001, -1}[source.Intn(8)])
	}
	for range source.Intn(3) {
		if len(seqs) > 0 {
			seqs = append(seqs, seqs[source.Intn(len(seqs))])
		}
	}
	return seqs
}

// Promise 23: messages in another order, and messages that come again, lead to the same link, that of the last message.
func TestMessagesInAnotherOrderLeadToTheSame(t *testing.T) {
	source := rand.New(rand.NewSource(220))
	for range 1000 {
		k := drawLink(source)
		seqs, now, offset := drawSeqs(source, k), min(k.Heard+source.Intn(500), 1000000), source.Intn(201)
		want := impl.HearAll(k, seqs, now, offset)
		one := k
		for _, seq := range seqs {
			one, _ = impl.HearLink(one, seq, now, offset)
		}
		if want != one || want.Seq < k.Seq || (want.Seq == k.Seq) != (want == k) || want != k && !slices.Contains(seqs, want.Seq) || want != k && impl.LinkState(want, now) != impl.LkStep {
			t.Fatalf("HearAll(%v, %v, %d, %d) = %v; want %v", k, seqs, now, offset, want, one)
		}
		for _, seq := range seqs {
			if seq > want.Seq && seq <= 1000000 {
				t.Fatalf("HearAll(%v, %v, %d, %d) = %v", k, seqs, now, offset, want)
			}
		}
		for range 10 {
			source.Shuffle(len(seqs), func(i int, j int) { seqs[i], seqs[j] = seqs[j], seqs[i] })
			if got := impl.HearAll(k, seqs, now, offset); got != want {
				t.Fatalf("HearAll(%v, %v, %d, %d) = %v; want %v", k, seqs, now, offset, got, want)
			}
			again := append(slices.Clone(seqs), seqs...)
			if got := impl.HearAll(k, again, now, offset); got != want {
				t.Fatalf("HearAll(%v, %v, %d, %d) = %v; want %v", k, again, now, offset, got, want)
			}
		}
		if got := impl.HearAll(want, seqs, now, offset); got != want {
			t.Fatalf("HearAll(%v, %v, %d, %d) = %v", want, seqs, now, offset, got)
		}
	}
}

func TestInStep(t *testing.T) {
	k, later := link(3, 5, 100, 40), link(4, 6, 120, 50)
	cases := []struct {
		l    []impl.Link
		now  int
		want bool
	}{
		{nil, 0, true}, {nil, -1, true}, {nil, math.MaxInt, true}, {[]impl.Link{k}, 100, true}, {[]impl.Link{k}, 130, true}, {[]impl.Link{k}, 131, false}, {[]impl.Link{k}, 99, false}, {[]impl.Link{k, later}, 120, true}, {[]impl.Link{k, later}, 130, true}, {[]impl.Link{k, later}, 119, false}, {[]impl.Link{later, k}, 119, false}, {[]impl.Link{k, later}, 131, false}, {[]impl.Link{later, k}, 131, false}, {[]impl.Link{later}, 150, true}, {[]impl.Link{k, k, k}, 130, true}, {[]impl.Link{k}, 1000001, false}, {[]impl.Link{k}, 500, false}, {[]impl.Link{k}, math.MinInt, false}, {[]impl.Link{k}, math.MaxInt, false}, {[]impl.Link{link(1, 0, 1000000, 0)}, 1000000, true}, {[]impl.Link{link(1, 0, 1000000, 0)}, 1000001, false},
	}
	for _, c := range cases {
		if got := impl.InStep(c.l, c.now); got != c.want {
			t.Errorf("InStep(%v, %d) = %v", c.l, c.now, got)
		}
	}
	// A link that is not valid is never in step, alone and among others.
	for _, bad := range notLinks() {
		for _, l := range [][]impl.Link{{bad}, {bad, k, later}, {k, bad, later}, {k, later, bad}} {
			if impl.InStep(l, 125) {
				t.Errorf("InStep(%v, 125) is true", l)
			}
		}
	}
	source := rand.New(rand.NewSource(221))
	for range 1000 {
		var l []impl.Link
		now, want := 50+source.Intn(100), true
		for range source.Intn(4) {
			k := link(1+source.Intn(8), source.Intn(9), now-source.Intn(40), 7)
			l, want = append(l, k), want && linkState(k, now) == 0
		}
		if got := impl.InStep(l, now); got != want {
			t.Errorf("InStep(%v, %d) = %v", l, now, got)
		}
	}
}

func TestStateName(t *testing.T) {
	for _, state := range around(0, 2) {
		want := map[int]string{0: "step", 1: "free", 2: "alone"}[state]
		if got := impl.StateName(state); got != want {
			t.Errorf("StateName(%d) = %q; want %q", state, got, want)
		}
	}
}

func TestLinksAreNotChanged(t *testing.T) {
	wantUntouchedList(t, "HearAll", []int{9, 7, 5, 8}, 12, func(seqs []int) { impl.HearAll(link(3, 5, 100, 40), seqs, 130, 60) })
	wantUntouchedList(t, "InStep", append(notLinks(), link(3, 5, 100, 40)), link(7, 7, 7, 7), func(l []impl.Link) { impl.InStep(l, 120) })
}
