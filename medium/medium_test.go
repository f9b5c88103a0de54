package medium_test

import (
	"fmt"
	"math"
	"math/rand"
	"slices"
	"testing"

	"hotspot/api"
	"hotspot/medium"
	"hotspot/radio"
)

// The definitions, as the chapter says them.

const (
	mostSending = 64
	mostTime    = 1 << 40
	mostNeed    = 2000
	capture     = 100
)

func within(n, least, most int) bool { return least <= n && n <= most }

func validOf(w api.Air, l []api.Sending) bool {
	valid := len(l) <= mostSending
	for _, s := range l {
		valid = valid && within(s.Node, 0, len(w.Radios)-1) && within(s.Need, -mostNeed, mostNeed)
		valid = valid && 0 <= s.Start && s.Start < s.End && s.End <= mostTime
	}
	for i := 0; valid && i < len(l); i++ {
		for _, s := range l[:i] {
			valid = valid && (s.Node != l[i].Node || !overlapOf(s, l[i]))
		}
	}
	return valid
}

func overlapOf(a, b api.Sending) bool { return !(a.Start >= b.End || b.Start >= a.End) }

// errorOf returns the error of a world and a list.
func errorOf(w api.Air, l []api.Sending) api.Errno {
	if e := radio.Check(w); e != api.OK {
		return e
	}
	if !validOf(w, l) {
		return api.ErrBad
	}
	return api.OK
}

// errorAt returns the error of a question for a node and times.
func errorAt(w api.Air, l []api.Sending, j int, times ...int) api.Errno {
	if e := errorOf(w, l); e != api.OK {
		return e
	}
	valid := within(j, 0, len(w.Radios)-1)
	for _, t := range times {
		valid = valid && within(t, 0, mostTime)
	}
	if !valid {
		return api.ErrArg
	}
	return api.OK
}

func levelOf(w api.Air, i, j int) int {
	level, e := radio.Level(w, i, j)
	if e != api.OK {
		panic(e)
	}
	return level
}

func hearsOf(w api.Air, j, i int) bool {
	hears, e := radio.Hears(w, j, i)
	if e != api.OK {
		panic(e)
	}
	return hears
}

// canOf tells whether the transmission with the index i can be received by node j.
func canOf(w api.Air, l []api.Sending, i, j int) bool {
	s := l[i]
	if !hearsOf(w, j, s.Node) || levelOf(w, s.Node, j) < s.Need {
		return false
	}
	for o, k := range l {
		if o == i || !overlapOf(s, k) {
			continue
		}
		if k.Node == j {
			return false
		}
		if w.Radios[k.Node].Channel == w.Radios[j].Channel && levelOf(w, s.Node, j) < levelOf(w, k.Node, j)+capture {
			return false
		}
	}
	return true
}

func receiversOf(w api.Air, l []api.Sending, draws []bool) [][]int {
	taken := 0
	rows := make([][]int, len(l))
	for i := range l {
		for j := range w.Radios {
			if canOf(w, l, i, j) {
				if taken >= len(draws) || !draws[taken] {
					rows[i] = append(rows[i], j)
				}
				taken++
			}
		}
	}
	return rows
}

func busyOf(w api.Air, l []api.Sending, j, t int) bool {
	for _, s := range l {
		if (s.Node == j || hearsOf(w, j, s.Node)) && s.Start <= t && t < s.End {
			return true
		}
	}
	return false
}

// idleOf tries all times one after the other, and looks at each time before them. The times must be small.
func idleOf(w api.Air, l []api.Sending, j, from, space int) int {
	for t := from; ; t++ {
		idle := true
		for u := t - space; u < t; u++ {
			idle = idle && !busyOf(w, l, j, u)
		}
		if idle {
			return t
		}
	}
}

// largeIdleOf tries the time from, and all times that are later than an end by the space. The times may be large.
func largeIdleOf(w api.Air, l []api.Sending, j, from, space int) int {
	var busy []api.Sending
	tries := []int{from}
	for _, s := range l {
		if s.Node == j || hearsOf(w, j, s.Node) {
			busy = append(busy, s)
			tries = append(tries, s.End+space)
		}
	}
	best := math.MaxInt
	for _, t := range tries {
		idle := t >= from
		for _, s := range busy {
			last := min(t, s.End) - 1 // the last time that is in both, if there is one
			idle = idle && (last < s.Start || last < t-space)
		}
		if idle {
			best = min(best, t)
		}
	}
	return best
}

// What the tests expect.

func wantCheck(t *testing.T, w api.Air, l []api.Sending, want api.Errno, what ...any) {
	t.Helper()
	if e := medium.Check(w, l); e != want {
		t.Fatalf("Check of %v: %d; want %d", what, int(e), int(want))
	}
	if e := errorOf(w, l); e != want {
		t.Fatalf("the definition of %v differs: %d", what, int(e))
	}
}

func wantOverlap(t *testing.T, a, b api.Sending, want bool) {
	t.Helper()
	if is := medium.Overlap(a, b); is != want {
		t.Fatalf("Overlap of %v, %v: %t", a, b, is)
	}
	if is := medium.Overlap(b, a); is != want {
		t.Fatalf("Overlap of %v, %v: %t", b, a, is)
	}
}

func wantRows(t *testing.T, w api.Air, l []api.Sending, draws []bool, want [][]int, wantE api.Errno) {
	t.Helper()
	rows, e := medium.Receivers(w, l, draws)
	if !slices.EqualFunc(rows, want, slices.Equal) || e != wantE {
		t.Fatalf("Receivers of %v in %v with %v: %v, %d; want %v, %d", l, w, draws, rows, int(e), want, int(wantE))
	}
}

// wantReceivers compares with the definition.
func wantReceivers(t *testing.T, w api.Air, l []api.Sending, draws []bool) api.Errno {
	t.Helper()
	e := errorOf(w, l)
	if e != api.OK {
		wantRows(t, w, l, draws, nil, e)
		return e
	}
	wantRows(t, w, l, draws, receiversOf(w, l, draws), e)
	return e
}

func wantBusy(t *testing.T, w api.Air, l []api.Sending, j, at int, want bool, wantE api.Errno) {
	t.Helper()
	if is, e := medium.Busy(w, l, j, at); is != want || e != wantE {
		t.Fatalf("Busy for %d at %d with %v in %v: %t, %d; want %t, %d", j, at, l, w, is, int(e), want, int(wantE))
	}
}

// wantBusyOf compares with the definition.
func wantBusyOf(t *testing.T, w api.Air, l []api.Sending, j, at int) api.Errno {
	t.Helper()
	e := errorAt(w, l, j, at)
	wantBusy(t, w, l, j, at, e == api.OK && busyOf(w, l, j, at), e)
	return e
}

func wantIdle(t *testing.T, w api.Air, l []api.Sending, j, from, space, want int, wantE api.Errno) {
	t.Helper()
	if at, e := medium.Idle(w, l, j, from, space); at != want || e != wantE {
		t.Fatalf("Idle for %d from %d for %d with %v in %v: %d, %d; want %d, %d", j, from, space, l, w, at, int(e), want, int(wantE))
	}
}

// wantIdleOf compares with a definition.
func wantIdleOf(t *testing.T, w api.Air, l []api.Sending, j, from, space int, of func(w api.Air, l []api.Sending, j, from, space int) int) api.Errno {
	t.Helper()
	e := errorAt(w, l, j, from, space)
	want := 0
	if e == api.OK {
		want = of(w, l, j, from, space)
	}
	wantIdle(t, w, l, j, from, space, want, e)
	return e
}

func wantDrop(t *testing.T, l []api.Sending, now int, want ...api.Sending) {
	t.Helper()
	if got := medium.Drop(l, now); !slices.Equal(got, want) {
		t.Fatalf("Drop of %v at %d: %v; want %v", l, now, got, want)
	}
}

// Worlds.

// line is a world of nodes with power 200 on one channel, at these positions on a line. They hear each other over up to 1,448 metres.
func line(xs ...int) api.Air {
	var w api.Air
	for _, x := range xs {
		w.Radios = append(w.Radios, api.Radio{X: x, Power: 200, Channel: 1})
	}
	return w
}

// leveled is a world of nodes on one channel, where rows[i][j] is the level of i at j, from -1000 to -400. Numbers on the diagonal do not count.
func leveled(rows ...[]int) api.Air {
	var w api.Air
	for i, row := range rows {
		w.Radios = append(w.Radios, api.Radio{Channel: 1})
		shadow := make([]int, len(row))
		for j, level := range row {
			if i != j {
				shadow[j] = -400 - level
			}
		}
		w.Shadow = append(w.Shadow, shadow)
	}
	return w
}

// random returns a valid world in which many nodes hear each other, and many do not.
func random(rng *rand.Rand) api.Air {
	var w api.Air
	n := 1 + rng.Intn(6)
	if rng.Intn(20) == 0 {
		n = 1 + rng.Intn(api.MaxNodes)
	}
	reach := []int{5, 100, 1000}[rng.Intn(3)]
	channels := []int{1, 1, 2, 64}[rng.Intn(4)]
	for range n {
		r := api.Radio{X: rng.Intn(2*reach+1) - reach, Y: rng.Intn(2*reach+1) - reach, Power: rng.Intn(301), Channel: 1 + rng.Intn(channels)}
		w.Radios = append(w.Radios, r)
	}
	if rng.Intn(2) == 0 {
		return w
	}
	for i := range n {
		w.Shadow = append(w.Shadow, make([]int, n))
		for j := range n {
			if i != j {
				w.Shadow[i][j] = rng.Intn(601)
			}
		}
	}
	return w
}

// Lists.

// randomList returns a valid list of at most so many transmissions, in random order, for a world. They last up to so long.
func randomList(rng *rand.Rand, w api.Air, most, longest int) []api.Sending {
	var l []api.Sending
	free := make([]int, len(w.Radios))
	for range rng.Intn(most + 1) {
		i := rng.Intn(len(free))
		start := free[i] + rng.Intn(longest)*rng.Intn(2)
		free[i] = start + 1 + rng.Intn(longest)
		need := []int{-mostNeed, -820, -600 + rng.Intn(300)}[rng.Intn(3)]
		l = append(l, api.Sending{Node: i, Start: start, End: free[i], Need: need})
	}
	rng.Shuffle(len(l), func(i, k int) { l[i], l[k] = l[k], l[i] })
	return l
}

// damaged returns a copy of a list with a change that often makes it invalid.
func damaged(rng *rand.Rand, w api.Air, l []api.Sending) []api.Sending {
	l = append(slices.Clone(l), api.Sending{Node: rng.Intn(len(w.Radios)), Start: 3, End: 4 + rng.Intn(5)})
	s := &l[rng.Intn(len(l))]
	switch rng.Intn(6) {
	case 0:
		s.Node = edge(rng, 0, len(w.Radios)-1)
	case 1:
		s.Start = edge(rng, 0, s.End-1)
	case 2:
		s.End = edge(rng, s.Start+1, mostTime)
	case 3:
		s.Need = edge(rng, -mostNeed, mostNeed)
	case 4:
		s.Node = l[rng.Intn(len(l))].Node
	}
	return l
}

// edge returns a number at an end of a range, inside or outside.
func edge(rng *rand.Rand, least, most int) int {
	return []int{least, least - 1, most, most + 1, math.MinInt, math.MaxInt}[rng.Intn(6)]
}

// extremes are numbers whose sums and products do not fit into a number, and some at which something changes.
var extremes = []int{
	math.MinInt, math.MinInt + 1, math.MinInt / 2, math.MinInt32, -1 << 40, -1,
	mostTime + 1, 1 << 41, 1 << 62, math.MaxInt / 2, math.MaxInt - 1, math.MaxInt,
}

// crossed is a valid list for the world line(0, 100, 200).
func crossed() []api.Sending {
	return []api.Sending{{Node: 0, Start: 10, End: 20}, {Node: 1, Start: 15, End: 30, Need: -820}, {Node: 0, Start: 20, End: 25}}
}

// with returns a changed copy of crossed.
func with(change func(l []api.Sending)) []api.Sending {
	l := crossed()
	change(l)
	return l
}

// invalid returns lists that are not valid for the world line(0, 100, 200).
func invalid() [][]api.Sending {
	lists := [][]api.Sending{
		make([]api.Sending, 1), // a zero transmission does not last
		apart(mostSending + 1),
		with(func(l []api.Sending) { l[1].Node = 3 }),
		with(func(l []api.Sending) { l[2].Start = 19 }),
		with(func(l []api.Sending) { l[1].Need = 2001 }),
	}
	for _, bad := range extremes {
		lists = append(lists, with(func(l []api.Sending) { l[0].Start = bad }), with(func(l []api.Sending) { l[0].End = bad }))
	}
	return lists
}

// apart returns n transmissions of one node that touch each other.
func apart(n int) []api.Sending {
	var l []api.Sending
	for i := range n {
		l = append(l, api.Sending{Start: 7 * i, End: 7*i + 7, Need: -700})
	}
	return l
}

// wantSeen checks that a random test came across each of the errors at least so often.
func wantSeen(t *testing.T, seen map[api.Errno]int, least int, errors ...api.Errno) {
	t.Helper()
	for _, e := range errors {
		if seen[e] < least {
			t.Errorf("the error %d was seen %d times only", int(e), seen[e])
		}
	}
}

// P11.1

func TestCheck(t *testing.T) {
	w := line(0, 100, 200)
	for _, c := range []struct {
		what   string
		change func(l []api.Sending)
		want   api.Errno
	}{
		{"a list", func(l []api.Sending) {}, api.OK},
		{"the last node", func(l []api.Sending) { l[0].Node = 2 }, api.OK},
		{"a node too far", func(l []api.Sending) { l[0].Node = 3 }, api.ErrBad},
		{"a negative node", func(l []api.Sending) { l[1].Node = -1 }, api.ErrBad},
		{"node 32", func(l []api.Sending) { l[1].Node = 32 }, api.ErrBad},
		{"the first time", func(l []api.Sending) { l[0].Start = 0 }, api.OK},
		{"a time before the first", func(l []api.Sending) { l[0].Start = -1 }, api.ErrBad},
		{"the shortest time", func(l []api.Sending) { l[0].Start = 19 }, api.OK},
		{"no time", func(l []api.Sending) { l[0].Start = 20 }, api.ErrBad},
		{"less than no time", func(l []api.Sending) { l[1].Start = 31 }, api.ErrBad},
		{"the shortest time at the end", func(l []api.Sending) { l[2].End = 21 }, api.OK},
		{"no time at the end", func(l []api.Sending) { l[2].End = 20 }, api.ErrBad},
		{"the last time", func(l []api.Sending) { l[2].End = mostTime }, api.OK},
		{"a time after the last", func(l []api.Sending) { l[2].End = mostTime + 1 }, api.ErrBad},
		{"the least need", func(l []api.Sending) { l[0].Need = -2000 }, api.OK},
		{"less need", func(l []api.Sending) { l[0].Need = -2001 }, api.ErrBad},
		{"the greatest need", func(l []api.Sending) { l[2].Need = 2000 }, api.OK},
		{"more need", func(l []api.Sending) { l[2].Need = 2001 }, api.ErrBad},
		{"the same node later", func(l []api.Sending) { l[2].Start = 21 }, api.OK},
		{"the same node too early", func(l []api.Sending) { l[2].Start = 19 }, api.ErrBad},
		{"the same node before", func(l []api.Sending) { l[2].Start, l[2].End = 0, 10 }, api.OK},
		{"the same node until too late", func(l []api.Sending) { l[2].Start, l[2].End = 0, 11 }, api.ErrBad},
		{"the same node inside", func(l []api.Sending) { l[2].Start, l[2].End = 12, 13 }, api.ErrBad},
		{"the same node around", func(l []api.Sending) { l[2].Start, l[2].End = 0, 40 }, api.ErrBad},
		{"the same transmission twice", func(l []api.Sending) { l[2] = l[0] }, api.ErrBad},
		{"another node at the same time", func(l []api.Sending) { l[2] = l[0]; l[2].Node = 2 }, api.OK},
	} {
		wantCheck(t, w, with(c.change), c.want, c.what)
	}
	wantCheck(t, w, nil, api.OK, "no list")
	wantCheck(t, w, []api.Sending{}, api.OK, "an empty list")
}

func TestCheckOfNumbersOfTransmissions(t *testing.T) {
	for n := range 140 {
		want := api.OK
		if n > 64 {
			want = api.ErrBad
		}
		wantCheck(t, line(0), apart(n), want, n, "transmissions")
	}
}

// Each number of each transmission, and each pair of transmissions, is looked at.
func TestCheckOfEachNumber(t *testing.T) {
	w := line(0, 100, 200)
	for _, n := range []int{1, 2, 5, 64} {
		wantCheck(t, w, apart(n), api.OK, n, "transmissions")
		for i := range n {
			for _, bad := range append([]int{-1, 3}, extremes...) {
				l := apart(n)
				l[i].Node = bad
				wantCheck(t, w, l, api.ErrBad, "a bad node", bad)
			}
			for _, bad := range append([]int{-2001, 2001}, extremes...) {
				l := apart(n)
				l[i].Need = bad
				if !within(bad, -2000, 2000) {
					wantCheck(t, w, l, api.ErrBad, "a bad need", bad)
				}
			}
			for _, bad := range append([]int{7*i + 7, 7*i + 8}, extremes...) {
				l := apart(n)
				l[i].Start = bad
				wantCheck(t, w, l, api.ErrBad, "a bad start", bad)
			}
			for _, bad := range append([]int{7 * i, 7*i - 1}, extremes...) {
				l := apart(n)
				l[i].End = bad
				wantCheck(t, w, l, api.ErrBad, "a bad end", bad)
			}
			for k := range n {
				l := apart(n)
				l[i].Start, l[i].End = 7*k+2, 7*k+5
				if i != k {
					wantCheck(t, w, l, api.ErrBad, "transmissions of one node at a time:", i, k)
				}
				l[i].Node = 1
				wantCheck(t, w, l, api.OK, "transmissions of two nodes at a time:", i, k)
			}
		}
	}
}

// The nodes of a list are those of the world.
func TestCheckOfNodes(t *testing.T) {
	for n := 1; n <= 32; n++ {
		w := line(make([]int, n)...)
		for i := range 35 {
			want := api.OK
			if i >= n {
				want = api.ErrBad
			}
			wantCheck(t, w, []api.Sending{{Node: i, End: 1}}, want, "node", i, "of", n)
		}
	}
}

// invalidWorlds are worlds that are not valid.
func invalidWorlds() []api.Air {
	shadow, power, many := line(0, 100), line(0, 100), line(make([]int, 33)...)
	shadow.Shadow = [][]int{{0, 1}, {1, 2}}
	power.Radios[1].Power = 301
	return []api.Air{{}, shadow, power, many, line(10001), {Shadow: [][]int{{0}}}}
}

// wantAllBad checks that all calls return the error of a world and a list, whatever else there is.
func wantAllBad(t *testing.T, w api.Air, l []api.Sending) {
	t.Helper()
	wantCheck(t, w, l, api.ErrBad, l, w)
	wantRows(t, w, l, nil, nil, api.ErrBad)
	wantRows(t, w, l, []bool{true}, nil, api.ErrBad)
	for _, n := range append([]int{0, 1, 5, 100}, extremes...) {
		wantBusy(t, w, l, n, 12, false, api.ErrBad)
		wantBusy(t, w, l, 0, n, false, api.ErrBad)
		wantIdle(t, w, l, n, 12, 5, 0, api.ErrBad)
		wantIdle(t, w, l, 0, n, 5, 0, api.ErrBad)
		wantIdle(t, w, l, 0, 12, n, 0, api.ErrBad)
	}
}

func TestInvalidWorldsAndLists(t *testing.T) {
	for _, w := range invalidWorlds() {
		for _, l := range append(invalid(), nil, crossed(), apart(1)) {
			wantAllBad(t, w, l)
		}
	}
	for _, l := range invalid() {
		wantAllBad(t, line(0, 100, 200), l)
	}
}

func TestOverlap(t *testing.T) {
	at := func(start, end int) api.Sending { return api.Sending{Start: start, End: end} }
	for _, c := range []struct {
		a, b api.Sending
		want bool
	}{
		{at(0, 10), at(0, 10), true},
		{at(0, 10), at(10, 20), false},
		{at(0, 10), at(9, 20), true},
		{at(0, 10), at(11, 20), false},
		{at(0, 10), at(3, 4), true},
		{at(0, 10), at(0, 1), true},
		{at(0, 10), at(9, 10), true},
		{at(-20, -10), at(-11, 5), true},
		{at(-20, -10), at(-10, 5), false},
		{at(0, 0), at(0, 0), false},
		{at(0, 0), at(0, 10), false},
		{at(10, 10), at(0, 10), false},
		{at(5, 5), at(0, 10), true},
		{at(7, 3), at(0, 10), true},
		{at(7, 3), at(7, 3), false},
		{at(7, 3), at(4, 10), false},
		{at(10, 0), at(0, 10), false},
		{at(math.MinInt, math.MaxInt), at(0, 1), true},
		{at(math.MinInt, math.MaxInt), at(math.MinInt, math.MaxInt), true},
		{at(math.MaxInt, math.MinInt), at(math.MinInt, math.MaxInt), false},
		{at(math.MinInt, math.MinInt), at(math.MinInt, math.MaxInt), false},
		{at(math.MinInt, math.MinInt+1), at(math.MinInt, math.MaxInt), true},
	} {
		wantOverlap(t, c.a, c.b, c.want)
		c.a.Node, c.a.Need, c.b.Node, c.b.Need = -5, math.MaxInt, 77, math.MinInt
		wantOverlap(t, c.a, c.b, c.want)
	}
}

func TestOverlapOfAll(t *testing.T) {
	numbers := append([]int{-3, -2, 0, 1, 2, 3, mostTime}, extremes...)
	for _, a := range numbers {
		for _, b := range numbers {
			for _, c := range numbers {
				for _, d := range numbers {
					one, two := api.Sending{Start: a, End: b}, api.Sending{Start: c, End: d}
					wantOverlap(t, one, two, overlapOf(one, two))
				}
			}
		}
	}
}

// Two transmissions that last overlap if there is a time that both have.
func TestOverlapIsACommonTime(t *testing.T) {
	times := func(s api.Sending) (l []int) {
		for u := s.Start; u < s.End; u++ {
			l = append(l, u)
		}
		return l
	}
	for a := range 7 {
		for b := a + 1; b < 8; b++ {
			for c := range 7 {
				for d := c + 1; d < 8; d++ {
					one, two := api.Sending{Start: a, End: b}, api.Sending{Start: c, End: d}
					common := slices.ContainsFunc(times(one), func(u int) bool { return slices.Contains(times(two), u) })
					wantOverlap(t, one, two, common)
				}
			}
		}
	}
}

// P11.2

// Nodes 0, 1 and 2 hear node 1 on one channel, node 3 is on another one, and node 4 is too far away.
func TestReceivers(t *testing.T) {
	w := line(0, 100, 200, 150, 5000)
	w.Radios[3].Channel = 2
	wantRows(t, w, nil, nil, nil, api.OK)
	wantRows(t, w, []api.Sending{{Node: 1, End: 10, Need: -820}}, nil, [][]int{{0, 2}}, api.OK)
	wantRows(t, w, []api.Sending{{Node: 3, End: 10, Need: -820}}, nil, [][]int{nil}, api.OK)
	wantRows(t, w, []api.Sending{{Node: 4, End: 10, Need: -2000}}, nil, [][]int{nil}, api.OK)
	wantRows(t, w, []api.Sending{
		{Node: 1, Start: 20, End: 30, Need: -700}, {Node: 2, Start: 10, End: 20, Need: -600}, {Node: 0, Start: 30, End: 40, Need: -820}, {Node: 3, Start: 0, End: 50, Need: -820},
	}, nil, [][]int{{0, 2}, {1}, {1, 2}, nil}, api.OK)
}

func TestNeed(t *testing.T) {
	others := []int{-500, -500, -500, -500}
	w := leveled([]int{0, -500, -820, -821}, others, others, others)
	for _, c := range []struct {
		need int
		want []int
	}{
		{-2000, []int{1, 2}}, {-821, []int{1, 2}}, {-820, []int{1, 2}}, {-819, []int{1}}, {-501, []int{1}}, {-500, []int{1}}, {-499, nil}, {0, nil}, {2000, nil},
	} {
		wantRows(t, w, []api.Sending{{End: 10, Need: c.need}}, nil, [][]int{c.want}, api.OK)
	}
}

// Node 2 hears node 0 at -600; the level of node 1 there decides what it receives.
func TestCapture(t *testing.T) {
	for _, c := range []struct {
		level             int
		fromZero, fromOne bool
	}{
		{-1000, true, false}, {-821, true, false}, {-820, true, false}, {-702, true, false}, {-701, true, false}, {-700, true, false},
		{-699, false, false}, {-650, false, false}, {-600, false, false}, {-550, false, false}, {-501, false, false},
		{-500, false, true}, {-499, false, true}, {-400, false, true},
	} {
		w := leveled([]int{0, -900, -600}, []int{-900, 0, c.level}, []int{-900, -900, 0})
		l := []api.Sending{{Node: 0, Start: 5, End: 10, Need: -820}, {Node: 1, Start: 9, End: 20, Need: -820}}
		want := make([][]int, 2)
		if c.fromZero {
			want[0] = []int{2}
		}
		if c.fromOne {
			want[1] = []int{2}
		}
		wantRows(t, w, l, nil, want, api.OK)
		slices.Reverse(l)
		slices.Reverse(want)
		wantRows(t, w, l, nil, want, api.OK)
	}
}

// What is too weak to be heard still disturbs.
func TestUnheardDisturbs(t *testing.T) {
	for _, c := range []struct {
		level int
		want  []int
	}{
		{-900, []int{2}}, {-899, nil}, {-850, nil}, {-821, nil},
	} {
		w := leveled([]int{0, -1000, -800}, []int{-1000, 0, c.level}, []int{-1000, -1000, 0})
		wantRows(t, w, []api.Sending{{Node: 0, End: 10, Need: -820}, {Node: 1, End: 10, Need: -820}}, nil, [][]int{c.want, nil}, api.OK)
	}
}

// Each other transmission is held against a transmission by itself: the levels are not added.
func TestManyDisturb(t *testing.T) {
	rows := make([][]int, 32)
	for i := range rows {
		rows[i] = slices.Repeat([]int{-1000}, 32)
		rows[i][31] = -700
	}
	rows[0][31] = -600
	w := leveled(rows...)
	var l []api.Sending
	for i := range 31 {
		l = append(l, api.Sending{Node: i, Start: i, End: 40, Need: -600})
	}
	want := make([][]int, 31)
	want[0] = []int{31}
	wantRows(t, w, l, nil, want, api.OK)
	for k := 1; k < 31; k++ {
		w.Shadow[k][31]-- // one that is a bit stronger
		wantRows(t, w, l, nil, make([][]int, 31), api.OK)
		w.Shadow[k][31]++
	}
	wantRows(t, w, l, nil, want, api.OK)
}

// Only what overlaps disturbs, however shortly.
func TestOnlyOverlappingDisturbs(t *testing.T) {
	w := line(0, 100, 200)
	for _, c := range []struct {
		start, end int
		disturbed  bool
	}{
		{0, 10, false}, {0, 11, true}, {10, 20, true}, {12, 13, true}, {0, 100, true}, {19, 30, true}, {20, 30, false}, {21, 30, false},
	} {
		l := []api.Sending{{Node: 0, Start: 10, End: 20, Need: -820}, {Node: 2, Start: c.start, End: c.end, Need: -820}}
		want := [][]int{{1, 2}, {0, 1}}
		if c.disturbed { // the outer ones send themselves then
			want = [][]int{nil, nil}
		}
		wantRows(t, w, l, nil, want, api.OK)
	}
}

// Whoever sends receives nothing, however strong it is and however weak what it sends.
func TestSenderDoesNotReceive(t *testing.T) {
	w := line(0, 1)
	w.Radios[0].Power, w.Radios[1].Power = 300, 0 // node 0 is at node 1 with -100, and node 1 at itself with -400
	wantRows(t, w, []api.Sending{{Node: 0, Start: 10, End: 20, Need: -820}}, nil, [][]int{{1}}, api.OK)
	for _, c := range []struct {
		start, end int
		received   bool
	}{
		{0, 10, true}, {0, 11, false}, {15, 16, false}, {19, 30, false}, {20, 30, true},
	} {
		l := []api.Sending{{Node: 0, Start: 10, End: 20, Need: -820}, {Node: 1, Start: c.start, End: c.end, Need: 2000}}
		want := make([][]int, 2)
		if c.received {
			want[0] = []int{1}
		}
		wantRows(t, w, l, nil, want, api.OK)
	}
}

// What is sent on another channel than the receiver's does not disturb.
func TestOtherChannelsDoNotDisturb(t *testing.T) {
	w := line(0, 100, 101)
	l := []api.Sending{{Node: 0, End: 10, Need: -820}, {Node: 2, End: 10, Need: -820}}
	wantRows(t, w, l, nil, [][]int{nil, {1}}, api.OK)
	w.Radios[2].Channel = 64
	wantRows(t, w, l, nil, [][]int{{1}, nil}, api.OK)
	w.Radios[0].Channel, w.Radios[1].Channel = 2, 2
	wantRows(t, w, l, nil, [][]int{{1}, nil}, api.OK)
	w.Radios[0].Channel = 1
	wantRows(t, w, l, nil, [][]int{nil, nil}, api.OK)
	w.Radios[1].Channel = 64
	wantRows(t, w, l, nil, [][]int{nil, {1}}, api.OK)
}

// A node's transmissions one after the other do not disturb each other.
func TestOneAfterTheOther(t *testing.T) {
	var want [][]int
	for range 64 {
		want = append(want, []int{1, 2})
	}
	wantRows(t, line(0, 100, 200), apart(64), nil, want, api.OK)
}

func TestDraws(t *testing.T) {
	w := line(0, 10, 20, 30)
	l := []api.Sending{{Node: 1, Start: 20, End: 30, Need: -820}, {Node: 0, Start: 0, End: 10, Need: 2000}, {Node: 3, Start: 10, End: 20, Need: -820}}
	for _, c := range []struct {
		draws []bool
		want  [][]int
	}{
		{nil, [][]int{{0, 2, 3}, nil, {0, 1, 2}}},
		{[]bool{}, [][]int{{0, 2, 3}, nil, {0, 1, 2}}},
		{[]bool{false}, [][]int{{0, 2, 3}, nil, {0, 1, 2}}},
		{[]bool{true}, [][]int{{2, 3}, nil, {0, 1, 2}}},
		{[]bool{false, true}, [][]int{{0, 3}, nil, {0, 1, 2}}},
		{[]bool{true, false, true}, [][]int{{2}, nil, {0, 1, 2}}},
		{[]bool{false, false, false, true}, [][]int{{0, 2, 3}, nil, {1, 2}}},
		{[]bool{true, true, true, false, true}, [][]int{nil, nil, {0, 2}}},
		{[]bool{false, false, false, false, false, true}, [][]int{{0, 2, 3}, nil, {0, 1}}},
		{[]bool{true, true, true, true, true, true}, [][]int{nil, nil, nil}},
		{[]bool{false, false, false, false, false, false, true, true}, [][]int{{0, 2, 3}, nil, {0, 1, 2}}},
		{slices.Repeat([]bool{true}, 3000), [][]int{nil, nil, nil}},
	} {
		wantRows(t, w, l, c.draws, c.want, api.OK)
	}
}

// A lost transmission disturbs all the same, and takes no second draw.
func TestLostDisturbs(t *testing.T) {
	w := line(0, 100, 200, 205)
	l := []api.Sending{{Node: 0, End: 10, Need: -820}, {Node: 2, Start: 5, End: 15, Need: -820}, {Node: 1, Start: 20, End: 25, Need: -820}}
	wantRows(t, w, l[:1], nil, [][]int{{1, 2, 3}}, api.OK)
	wantRows(t, w, l, nil, [][]int{nil, {3}, {0, 2, 3}}, api.OK)
	wantRows(t, w, l, []bool{true}, [][]int{nil, nil, {0, 2, 3}}, api.OK)
	wantRows(t, w, l, []bool{true, true}, [][]int{nil, nil, {2, 3}}, api.OK)
}

// randomCase returns a world, a list of it, which is sometimes damaged, and draws.
func randomCase(rng *rand.Rand) (api.Air, []api.Sending, []bool) {
	w := random(rng)
	l := randomList(rng, w, []int{3, 8, mostSending}[rng.Intn(3)], []int{4, 30}[rng.Intn(2)])
	if rng.Intn(4) == 0 {
		l = damaged(rng, w, l)
	}
	draws := make([]bool, rng.Intn(20))
	for i := range draws {
		draws[i] = rng.Intn(3) == 0
	}
	return w, l, draws
}

func TestRandomReceivers(t *testing.T) {
	rng := rand.New(rand.NewSource(1))
	seen := map[api.Errno]int{}
	received, some := 0, 0
	for range 6000 {
		w, l, draws := randomCase(rng)
		wantCheck(t, w, l, errorOf(w, l), l)
		seen[wantReceivers(t, w, l, draws)]++
		rows, _ := medium.Receivers(w, l, nil)
		for _, row := range rows {
			received += len(row)
			if len(row) > 0 {
				some++
			}
		}
	}
	wantSeen(t, seen, 500, api.OK, api.ErrBad)
	if some < 2000 || received < some+500 {
		t.Errorf("%d transmissions were received, by %d nodes only", some, received)
	}
}

// P11.3

// Node 0 hears node 1, and not node 2; node 3 is on another channel.
func scene() (api.Air, []api.Sending) {
	w := line(0, 1000, 2000, 0)
	w.Radios[3].Channel = 2
	return w, []api.Sending{{Node: 1, Start: 30, End: 40, Need: 2000}, {Node: 0, Start: 10, End: 20, Need: 2000}, {Node: 2, Start: 0, End: 100}, {Node: 3, Start: 50, End: 60}}
}

func TestBusy(t *testing.T) {
	w, l := scene()
	for at := range 130 {
		wantBusy(t, w, l, 0, at, within(at, 10, 19) || within(at, 30, 39), api.OK)
		wantBusy(t, w, l, 1, at, within(at, 0, 99), api.OK)
		wantBusy(t, w, l, 2, at, within(at, 0, 99), api.OK)
		wantBusy(t, w, l, 3, at, within(at, 50, 59), api.OK)
		wantBusy(t, w, nil, 0, at, false, api.OK)
	}
	wantBusy(t, w, l, 0, mostTime, false, api.OK)
	l = []api.Sending{{Node: 1, Start: mostTime - 1, End: mostTime}}
	wantBusy(t, w, l, 0, mostTime-2, false, api.OK)
	wantBusy(t, w, l, 0, mostTime-1, true, api.OK)
	wantBusy(t, w, l, 0, mostTime, false, api.OK)
}

// Who hears whom is not always the same both ways.
func TestBusyOneWay(t *testing.T) {
	w := leveled([]int{0, -820, -821}, []int{-821, 0, -500}, []int{-500, -821, 0})
	for i, heard := range [][]bool{{true, true, false}, {false, true, true}, {true, false, true}} {
		for j, is := range heard {
			l := []api.Sending{{Node: i, Start: 3, End: 5}}
			wantBusy(t, w, l, j, 4, is, api.OK)
			wantBusy(t, w, l, j, 5, false, api.OK)
			want := 4
			if is {
				want = 6
			}
			wantIdle(t, w, l, j, 4, 1, want, api.OK)
		}
	}
}

func TestIdle(t *testing.T) {
	w, l := scene()
	for _, c := range []struct{ from, space, want int }{
		{0, 0, 0}, {0, 1, 0}, {0, 50, 0}, {0, mostTime, 0}, // there is nothing before 0
		{5, 3, 5}, {10, 10, 10}, {10, 50, 10}, // the last time that is looked at is that before
		{11, 1, 21}, {11, 9, 29}, {11, 10, 30}, {11, 11, 51}, {11, 50, 90},
		{20, 1, 21}, {21, 1, 21}, {21, 2, 22}, {30, 10, 30}, {30, 11, 51}, {31, 1, 41}, {29, 9, 29}, {29, 10, 30},
		{40, 1, 41}, {41, 1, 41}, {49, 9, 49}, {49, 10, 50}, {50, 10, 50}, {50, 11, 51},
		{15, 0, 15}, {19, 0, 19}, {35, 0, 35}, // no time is looked at
		{1000, 960, 1000}, {1000, 961, 1001}, {1000, 970, 1010},
		{1000, 971, 1011}, {1000, 2000, 2040}, {mostTime, 5, mostTime}, {mostTime, mostTime, mostTime + 40},
	} {
		wantIdle(t, w, l, 0, c.from, c.space, c.want, api.OK)
		if c.space < 10000 {
			if want := idleOf(w, l, 0, c.from, c.space); want != c.want {
				t.Errorf("the definition says %d for %v", want, c)
			}
		}
	}
	wantIdle(t, w, l, 3, 10, 34, 10, api.OK)
	wantIdle(t, w, l, 3, 55, 34, 94, api.OK)
	wantIdle(t, w, l, 1, 55, 34, 134, api.OK)
	wantIdle(t, w, nil, 2, 55, 34, 55, api.OK)
	wantIdle(t, w, []api.Sending{{Node: 1, End: mostTime}}, 1, 1, 1, mostTime+1, api.OK)
	wantIdle(t, w, []api.Sending{{Node: 1, End: mostTime}}, 1, mostTime, mostTime, 2*mostTime, api.OK)
	wantIdle(t, w, []api.Sending{{Node: 1, Start: 1, End: mostTime}}, 1, 1, mostTime, 1, api.OK)
}

// The transmissions follow one another so closely that only the time behind the last one is idle, in whatever order they are.
func TestIdleBehindMany(t *testing.T) {
	rng := rand.New(rand.NewSource(2))
	l := apart(64)
	for range 50 {
		rng.Shuffle(len(l), func(i, k int) { l[i], l[k] = l[k], l[i] })
		wantIdle(t, line(0, 10), l, 1, 1, 1, 64*7+1, api.OK)
		wantIdle(t, line(0, 10), l, 1, 3, 100, 64*7+100, api.OK)
		wantIdle(t, line(0, 10), l, 1, 64*7, 1, 64*7+1, api.OK)
	}
	l = l[:0]
	for i := range 64 {
		l = append(l, api.Sending{Start: 10 * i, End: 10*i + 1})
	}
	for range 50 {
		rng.Shuffle(len(l), func(i, k int) { l[i], l[k] = l[k], l[i] })
		for _, s := range l {
			wantIdle(t, line(0, 10), l, 1, s.Start, 9, s.Start, api.OK)
			wantIdle(t, line(0, 10), l, 1, s.Start+1, 9, s.Start+10, api.OK)
			wantIdle(t, line(0, 10), l, 1, s.Start+1, 10, 641, api.OK)
		}
	}
}

func TestBusyAndIdleErrors(t *testing.T) {
	w, l := scene()
	for _, bad := range extremes {
		wantBusy(t, w, l, bad, 5, false, api.ErrArg)
		wantBusy(t, w, l, 0, bad, false, api.ErrArg)
		wantBusy(t, w, l, bad, bad, false, api.ErrArg)
		wantIdle(t, w, l, bad, 5, 5, 0, api.ErrArg)
		wantIdle(t, w, l, 0, bad, 5, 0, api.ErrArg)
		wantIdle(t, w, l, 0, 5, bad, 0, api.ErrArg)
		wantIdle(t, w, l, 0, bad, 0, 0, api.ErrArg)
		wantIdle(t, w, l, bad, bad, bad, 0, api.ErrArg)
		wantIdle(t, w, nil, 0, bad, bad, 0, api.ErrArg)
	}
	for j := -2; j < 40; j++ {
		e := api.OK
		if !within(j, 0, 3) {
			e = api.ErrArg
		}
		wantBusyOf(t, w, l, j, 35)
		wantIdleOf(t, w, l, j, 35, 12, idleOf)
		wantIdle(t, w, nil, j, 0, 0, 0, e)
		wantBusy(t, w, nil, j, 0, false, e)
	}
}

func TestRandomBusyAndIdle(t *testing.T) {
	rng := rand.New(rand.NewSource(3))
	seen := map[api.Errno]int{}
	waited := 0
	for range 6000 {
		w, l, _ := randomCase(rng)
		j := rng.Intn(len(w.Radios)+2) - rng.Intn(2)
		at, space := rng.Intn(50)-rng.Intn(2), rng.Intn(40)*rng.Intn(2)-rng.Intn(20)/19
		seen[wantBusyOf(t, w, l, j, at)]++
		seen[wantIdleOf(t, w, l, j, at, space, largeIdleOf)]++
		if errorAt(w, l, j, at, space) == api.OK && !slices.ContainsFunc(l, func(s api.Sending) bool { return s.End > 3000 }) {
			wantIdleOf(t, w, l, j, at, space, idleOf)
			if idle, _ := medium.Idle(w, l, j, at, space); idle > at {
				waited++
			}
		}
	}
	wantSeen(t, seen, 500, api.OK, api.ErrBad, api.ErrArg)
	if waited < 500 {
		t.Errorf("the medium was idle at once but for %d times", waited)
	}
}

func TestRandomIdleOfLargeTimes(t *testing.T) {
	rng := rand.New(rand.NewSource(4))
	for range 1000 {
		w := random(rng)
		l := randomList(rng, w, mostSending, mostTime/128)
		j := rng.Intn(len(w.Radios))
		wantIdleOf(t, w, l, j, rng.Intn(mostTime+1), rng.Intn(mostTime+1)>>rng.Intn(40), largeIdleOf)
		wantBusyOf(t, w, l, j, rng.Intn(mostTime+1))
		for _, s := range l {
			for _, at := range []int{s.Start - 1, s.Start, s.End - 1, s.End} {
				wantBusyOf(t, w, l, j, at)
			}
		}
	}
}

// P11.4

func TestDrop(t *testing.T) {
	l := crossed()
	wantDrop(t, l, 0, l...)
	wantDrop(t, l, 19, l...)
	wantDrop(t, l, 20, l[1], l[2])
	wantDrop(t, l, 24, l[1], l[2])
	wantDrop(t, l, 25, l[1])
	wantDrop(t, l, 29, l[1])
	wantDrop(t, l, 30)
	wantDrop(t, l, math.MaxInt)
	wantDrop(t, l, math.MinInt, l...)
	wantDrop(t, nil, 5)
	wantDrop(t, []api.Sending{}, -5)
}

// Any list is taken, whether or not it is valid for some world.
func TestDropOfAnyList(t *testing.T) {
	odd := []api.Sending{{Node: -7, Start: 9, End: 5, Need: 9999}, {Node: 99, Start: -9, End: -5}, {}, {End: math.MaxInt}, {End: math.MinInt}, {End: 5}, {End: 5}}
	wantDrop(t, odd, -6, odd[0], odd[1], odd[2], odd[3], odd[5], odd[6])
	wantDrop(t, odd, -5, odd[0], odd[2], odd[3], odd[5], odd[6])
	wantDrop(t, odd, 0, odd[0], odd[3], odd[5], odd[6])
	wantDrop(t, odd, 5, odd[3])
	wantDrop(t, odd, math.MaxInt-1, odd[3])
	wantDrop(t, odd, math.MaxInt)
	wantDrop(t, odd, math.MinInt, odd[0], odd[1], odd[2], odd[3], odd[5], odd[6])
	for _, n := range []int{64, 65, 1000} {
		l := apart(n)
		wantDrop(t, l, 70, l[10:]...)
		slices.Reverse(l)
		wantDrop(t, l, 70, l[:n-10]...)
	}
}

// What is dropped makes the medium neither busy nor not from then on.
func TestDropKeepsWhatCounts(t *testing.T) {
	rng := rand.New(rand.NewSource(5))
	for range 2000 {
		w := random(rng)
		l := randomList(rng, w, 12, 20)
		now := rng.Intn(60)
		kept := medium.Drop(l, now)
		wantCheck(t, w, kept, api.OK, kept)
		for at := now; at < 80; at++ {
			wantBusy(t, w, kept, 0, at, busyOf(w, l, 0, at), api.OK)
		}
	}
}

// P11.5

func TestNoTwoAtOnce(t *testing.T) {
	rng := rand.New(rand.NewSource(6))
	overlapping := 0
	for range 3000 {
		w := random(rng)
		l := randomList(rng, w, 10, 20)
		rows, e := medium.Receivers(w, l, nil)
		if e != api.OK {
			t.Fatal(int(e))
		}
		for i := range l {
			for k := range i {
				if !medium.Overlap(l[i], l[k]) {
					continue
				}
				overlapping++
				for _, j := range rows[i] {
					if slices.Contains(rows[k], j) {
						t.Fatalf("in %v, node %d receives both %v and %v", w, j, l[i], l[k])
					}
				}
			}
		}
	}
	if overlapping < 1000 {
		t.Errorf("%d pairs overlapped only", overlapping)
	}
}

func TestAloneIsReceived(t *testing.T) {
	rng := rand.New(rand.NewSource(7))
	alone := 0
	for range 3000 {
		w := random(rng)
		l := randomList(rng, w, 4, 20)
		rows, _ := medium.Receivers(w, l, nil)
		for i, s := range l {
			if slices.ContainsFunc(l, func(k api.Sending) bool { return k != s && medium.Overlap(k, s) }) {
				continue
			}
			alone++
			var want []int
			for j := range w.Radios {
				if hearsOf(w, j, s.Node) && levelOf(w, s.Node, j) >= s.Need {
					want = append(want, j)
				}
			}
			if !slices.Equal(rows[i], want) {
				t.Fatalf("in %v, %v of %v is received by %v; want %v", w, s, l, rows[i], want)
			}
		}
	}
	if alone < 1000 {
		t.Errorf("%d transmissions were alone only", alone)
	}
}

func TestFurtherMakesNothingReceivable(t *testing.T) {
	rng := rand.New(rand.NewSource(8))
	fewer := 0
	for range 3000 {
		w := random(rng)
		l := randomList(rng, w, 10, 20)
		if len(l) == 0 {
			continue
		}
		all, _ := medium.Receivers(w, l, nil)
		k := rng.Intn(len(l))
		less := slices.Delete(slices.Clone(l), k, k+1)
		before, e := medium.Receivers(w, less, nil)
		after := slices.Delete(all, k, k+1)
		if e != api.OK || len(before) != len(after) {
			t.Fatal(int(e), len(before), len(after))
		}
		for i := range after {
			for _, j := range after[i] {
				if !slices.Contains(before[i], j) {
					t.Fatalf("in %v, %v makes %v receivable by %d", w, l[k], less[i], j)
				}
			}
			fewer += len(before[i]) - len(after[i])
		}
	}
	if fewer < 100 {
		t.Errorf("further transmissions disturbed %d times only", fewer)
	}
}

func TestOrderDoesNotMatter(t *testing.T) {
	rng := rand.New(rand.NewSource(9))
	for range 3000 {
		w := random(rng)
		l := randomList(rng, w, 12, 20)
		rows, _ := medium.Receivers(w, l, nil)
		order := rng.Perm(len(l))
		var mixed []api.Sending
		var want [][]int
		for _, i := range order {
			mixed = append(mixed, l[i])
			want = append(want, rows[i])
		}
		wantRows(t, w, mixed, nil, want, api.OK)
	}
}

// Of what can be received, the draws take away just one pair each, in order.
func TestEachDrawIsOnePair(t *testing.T) {
	rng := rand.New(rand.NewSource(10))
	for range 500 {
		w := random(rng)
		l := randomList(rng, w, 8, 10)
		rows, _ := medium.Receivers(w, l, nil)
		taken := 0
		for i, row := range rows {
			for k := range row {
				draws := make([]bool, taken+1)
				draws[taken] = true
				taken++
				want := slices.Clone(rows)
				want[i] = slices.Delete(slices.Clone(row), k, k+1)
				wantRows(t, w, l, draws, want, api.OK)
			}
		}
		wantRows(t, w, l, slices.Repeat([]bool{true}, taken), make([][]int, len(l)), api.OK)
		wantRows(t, w, l, append(make([]bool, taken), true), rows, api.OK)
	}
}

// The examples.

func TestExample(t *testing.T) {
	w := line(-1000, 0, 1000)
	both := []api.Sending{{Node: 0, Start: 5, End: 10, Need: -820}, {Node: 2, Start: 5, End: 10, Need: -820}}
	wantRows(t, w, both, nil, [][]int{nil, nil}, api.OK)
	wantRows(t, w, both[:1], nil, [][]int{{1}}, api.OK)
	wantRows(t, w, both[1:], nil, [][]int{{1}}, api.OK)
}

// R2

// guarded returns copies with further memory behind all lengths.
func guarded(w api.Air, l []api.Sending, draws []bool) (api.Air, []api.Sending, []bool) {
	g := api.Air{Radios: append(slices.Clone(w.Radios), api.Radio{X: 77}, api.Radio{Power: 78})[:len(w.Radios)]}
	for _, row := range w.Shadow {
		g.Shadow = append(g.Shadow, append(slices.Clone(row), 79, 80, 81)[:len(row)])
	}
	g.Shadow = append(g.Shadow, []int{82}, []int{83})[:len(w.Shadow)]
	return g, append(slices.Clone(l), api.Sending{Node: 84}, api.Sending{Node: 85})[:len(l)], append(slices.Clone(draws), true, false)[:len(draws)]
}

// everything returns all that there is, the memory behind the lengths included.
func everything(w api.Air, l []api.Sending, draws []bool) string {
	s := fmt.Sprint(w.Radios[:cap(w.Radios)], l[:cap(l)], draws[:cap(draws)])
	for _, row := range w.Shadow[:cap(w.Shadow)] {
		s += fmt.Sprint(row[:cap(row)])
	}
	return s
}

func TestArguments(t *testing.T) {
	rng := rand.New(rand.NewSource(11))
	for range 1000 {
		w, l, draws := guarded(randomCase(rng))
		before := everything(w, l, draws)
		medium.Check(w, l)
		medium.Receivers(w, l, draws)
		medium.Busy(w, l, 0, 20)
		medium.Idle(w, l, 0, 20, 5)
		medium.Drop(l, 20)
		medium.Drop(l, -1)
		if everything(w, l, draws) != before {
			t.Fatalf("the arguments were changed: %s", before)
		}
	}
}

func TestResultsShareNothing(t *testing.T) {
	w := line(0, 10, 20, 30)
	l := []api.Sending{{Node: 0, Start: 0, End: 5, Need: -820}, {Node: 1, Start: 5, End: 6, Need: -820}, {Node: 2, Start: 8, End: 9, Need: -820}}
	want := [][]int{{1, 2, 3}, {0, 2, 3}, {0, 1, 3}}
	rows, _ := medium.Receivers(w, l, nil)
	again, _ := medium.Receivers(w, l, nil)
	for i := range rows {
		row := rows[i][:cap(rows[i])]
		for k := range row {
			row[k] = 77
		}
		if !slices.EqualFunc(rows[i+1:], want[i+1:], slices.Equal) {
			t.Fatalf("row %d shares memory with another one", i)
		}
	}
	if !slices.EqualFunc(again, want, slices.Equal) {
		t.Fatal("two results share memory")
	}

	kept := medium.Drop(l, -1)
	kept = kept[:cap(kept)]
	for i := range kept {
		kept[i].Node = 77
	}
	if l[0].Node != 0 || l[1].Node != 1 || l[2].Node != 2 {
		t.Fatal("the result of Drop shares memory with the argument")
	}
	kept = medium.Drop(l, 5)
	l[1].Node, l[2].Node = 77, 77
	if kept[0].Node != 1 || kept[1].Node != 2 {
		t.Fatal("the result of Drop shares memory with the changed argument")
	}
}

// Nothing is kept: a call has the same result after any other calls.
func TestNothingIsKept(t *testing.T) {
	rng := rand.New(rand.NewSource(12))
	w, l := scene()
	for range 300 {
		medium.Receivers(randomCase(rng))
		wantReceivers(t, w, l, []bool{false, true})
		wantBusyOf(t, w, l, 0, 15)
		wantIdle(t, w, l, 0, 11, 11, 51, api.OK)
	}
}

// R3

func TestNilAndEmptyAreEqual(t *testing.T) {
	w := line(0, 100)
	w.Shadow = [][]int{}
	for _, l := range [][]api.Sending{nil, {}} {
		wantCheck(t, w, l, api.OK, l)
		wantRows(t, w, l, nil, nil, api.OK)
		wantRows(t, w, l, []bool{}, nil, api.OK)
		wantBusy(t, w, l, 1, 0, false, api.OK)
		wantIdle(t, w, l, 1, 3, 5, 3, api.OK)
		wantDrop(t, l, 0)
	}
	wantRows(t, w, []api.Sending{{End: 1, Need: -590}}, []bool{}, [][]int{{1}}, api.OK)
}

// R7

func TestAllCallsEnd(t *testing.T) {
	numbers := append([]int{0, 1, 2, 31, 32, 64, 2001, mostTime}, extremes...)
	worlds := append(invalidWorlds(), line(0), line(0, 10, 20))
	lists := append(invalid(), nil, crossed(), apart(64), apart(5000))
	for _, n := range numbers {
		lists = append(lists, []api.Sending{{Node: n, Start: n, End: n, Need: n}}, []api.Sending{{Start: n, End: 5}, {Start: 1, End: n}})
	}
	for _, w := range worlds {
		for _, l := range lists {
			medium.Check(w, l)
			medium.Receivers(w, l, []bool{true, false})
			for _, n := range numbers {
				medium.Busy(w, l, 0, n)
				medium.Busy(w, l, n, 0)
				medium.Idle(w, l, 0, n, 1)
				medium.Idle(w, l, 0, 1, n)
				medium.Idle(w, l, n, n, n)
				medium.Drop(l, n)
			}
		}
	}
}

// caseOf reads a world and a list from bytes: the number of radios, their positions, powers and channels, and then the transmissions, with one byte for the Node, Start, length and Need each.
func caseOf(b []byte) (api.Air, []api.Sending) {
	next := func() int {
		if len(b) == 0 {
			return 0
		}
		n := int(b[0])
		b = b[1:]
		return n
	}
	var w api.Air
	for range next() % 34 {
		w.Radios = append(w.Radios, api.Radio{X: (next() - 128) * 10, Power: next() * 302 / 255, Channel: 1 + next()%3})
	}
	var l []api.Sending
	for len(b) > 0 {
		s := api.Sending{Node: next() % 34, Start: next() - 1, Need: next()*5 - 900}
		s.End = s.Start + next()
		l = append(l, s)
	}
	return w, l
}

func FuzzList(f *testing.F) {
	f.Add([]byte{}, 0, 0, 0)
	f.Add([]byte{2, 128, 200, 1, 130, 200, 1, 0, 5, 10, 20}, 1, 10, 5)
	f.Add([]byte{3, 128, 200, 1, 138, 200, 1, 148, 200, 1, 0, 5, 10, 20, 2, 7, 10, 20}, 1, 10, 34)
	f.Add([]byte{2, 128, 255, 1, 128, 0, 1, 0, 5, 10, 20, 1, 8, 10, 2, 1, 10, 10, 3}, 0, 7, 3)
	f.Add([]byte{1, 128, 255, 1, 0, 5, 10, 20, 0, 8, 10, 2}, 0, 7, 3)
	f.Fuzz(func(t *testing.T, b []byte, j, at, space int) {
		w, l := caseOf(b)
		draws := make([]bool, len(b))
		for i := range draws {
			draws[i] = b[i]%2 == 1
		}
		wantCheck(t, w, l, errorOf(w, l), w, l)
		wantReceivers(t, w, l, nil)
		wantReceivers(t, w, l, draws)
		wantBusyOf(t, w, l, j, at)
		wantIdleOf(t, w, l, j, at, space, largeIdleOf)
		for j := -1; j <= len(w.Radios); j++ {
			wantBusyOf(t, w, l, j, at)
			wantIdleOf(t, w, l, j, at%1000, space%100, idleOf)
		}
		for _, s := range medium.Drop(l, at) {
			if s.End <= at || !slices.Contains(l, s) {
				t.Fatalf("Drop of %v at %d keeps %v", l, at, s)
			}
		}
	})
}
