package clock_test

import (
	"fmt"
	"math"
	"math/rand"
	"slices"
	"testing"

	"hotspot/api"
	"hotspot/clock"
)

// The definitions, as the chapter says them.

const (
	mostTime     = 1 << 40
	mostPpm      = 100
	mostNodes    = 32
	mostInterval = 65535
	mostTimers   = 256
	unit         = 1024
)

func within(n, least, most int) bool { return least <= n && n <= most }

func validOf(c api.Clock) bool {
	return within(c.Offset, -mostTime, mostTime) && within(c.Ppm, -mostPpm, mostPpm)
}

// driftOf tries integers until it has the largest one.
func driftOf(now, ppm int) int {
	q := now * ppm / 1000000
	for 1000000*q > now*ppm {
		q--
	}
	for 1000000*(q+1) <= now*ppm {
		q++
	}
	return q
}

func localOf(c api.Clock, now int) int { return now + c.Offset + driftOf(now, c.Ppm) }

// errorAt returns the error of a clock and a time.
func errorAt(c api.Clock, now int) api.Errno {
	switch {
	case !validOf(c):
		return api.ErrBad
	case !within(now, 0, mostTime):
		return api.ErrArg
	}
	return api.OK
}

func adoptOf(c api.Clock, now, stamp int) (api.Clock, api.Errno) {
	if e := errorAt(c, now); e != api.OK {
		return api.Clock{}, e
	}
	if !within(stamp, -2*mostTime, 2*mostTime) {
		return api.Clock{}, api.ErrArg
	}
	if x := localOf(c, now); stamp > x {
		c.Offset += stamp - x
	}
	if !validOf(c) {
		return api.Clock{}, api.ErrBad
	}
	return c, api.OK
}

func roundOf(l []api.Clock, hears [][]int, now int) ([]api.Clock, api.Errno) {
	for _, c := range l {
		if !validOf(c) {
			return nil, api.ErrBad
		}
	}
	valid := len(l) <= mostNodes && len(hears) == len(l) && within(now, 0, mostTime)
	for _, heard := range hears {
		for _, k := range heard {
			valid = valid && within(k, 0, len(l)-1)
		}
	}
	if !valid {
		return nil, api.ErrArg
	}
	var next []api.Clock
	for i, c := range l {
		if len(hears[i]) > 0 {
			var times []int
			for _, k := range hears[i] {
				times = append(times, localOf(l[k], now))
			}
			if most := slices.Max(times); most > localOf(c, now) {
				c.Offset += most - localOf(c, now)
			}
		}
		if !validOf(c) {
			return nil, api.ErrBad
		}
		next = append(next, c)
	}
	return next, api.OK
}

// targetOf tries all times and all stamps one after the other: the clock must be valid, and the arguments in range.
func targetOf(c api.Clock, now, units int) (at, stamp int) {
	for stamp = localOf(c, now); stamp%(units*unit) != 0; stamp++ {
	}
	for at = now; localOf(c, at) < stamp; at++ {
	}
	return at, stamp
}

func errorOfTarget(c api.Clock, now, units int) api.Errno {
	if e := errorAt(c, now); e != api.OK {
		return e
	}
	if !within(units, 1, mostInterval) {
		return api.ErrArg
	}
	return api.OK
}

func errorOfTimers(t api.Timers) api.Errno {
	valid := len(t.List) <= mostTimers && within(t.Next, 0, mostTime)
	for i, x := range t.List {
		valid = valid && within(x.Seq, 0, t.Next-1) && within(x.At, 0, mostTime)
		valid = valid && (i == 0 || t.List[i-1].Seq < x.Seq)
	}
	if !valid {
		return api.ErrBad
	}
	return api.OK
}

func setOf(t api.Timers, at, id int) (api.Timers, api.Errno) {
	if e := errorOfTimers(t); e != api.OK {
		return api.Timers{}, e
	}
	if !within(at, 0, mostTime) {
		return api.Timers{}, api.ErrArg
	}
	if len(t.List) == mostTimers || t.Next == mostTime {
		return api.Timers{}, api.ErrFull
	}
	var l []api.Timer
	for _, x := range t.List {
		l = append(l, x)
	}
	return api.Timers{Next: t.Next + 1, List: append(l, api.Timer{At: at, Id: id, Seq: t.Next})}, api.OK
}

func cancelOf(t api.Timers, id int) (api.Timers, api.Errno) {
	if e := errorOfTimers(t); e != api.OK {
		return api.Timers{}, e
	}
	var l []api.Timer
	for _, x := range t.List {
		if x.Id != id {
			l = append(l, x)
		}
	}
	return api.Timers{Next: t.Next, List: l}, api.OK
}

// dueOf takes the first timer from the queue until none is due.
func dueOf(t api.Timers, now int) (ids []int, rest api.Timers, e api.Errno) {
	if e := errorOfTimers(t); e != api.OK {
		return nil, api.Timers{}, e
	}
	l := slices.Clone(t.List)
	for {
		first := -1
		for i, x := range l {
			if x.At <= now && (first < 0 || x.At < l[first].At || x.At == l[first].At && x.Seq < l[first].Seq) {
				first = i
			}
		}
		if first < 0 {
			return ids, api.Timers{Next: t.Next, List: l}, api.OK
		}
		ids = append(ids, l[first].Id)
		l = slices.Delete(l, first, first+1)
	}
}

func soonestOf(t api.Timers) (at int, ok bool, e api.Errno) {
	if e := errorOfTimers(t); e != api.OK {
		return 0, false, e
	}
	for _, x := range t.List {
		if !ok || x.At < at {
			at, ok = x.At, true
		}
	}
	return at, ok, api.OK
}

// What the tests expect.

func wantCheck(t *testing.T, c api.Clock, want api.Errno) {
	t.Helper()
	if e := clock.Check(c); e != want {
		t.Fatalf("Check of %v: %d; want %d", c, int(e), int(want))
	}
}

func wantLocal(t *testing.T, c api.Clock, now, want int, wantE api.Errno) {
	t.Helper()
	if x, e := clock.Local(c, now); x != want || e != wantE {
		t.Fatalf("Local of %v at %d: %d, %d; want %d, %d", c, now, x, int(e), want, int(wantE))
	}
}

// wantLocalOf compares with the definition.
func wantLocalOf(t *testing.T, c api.Clock, now int) {
	t.Helper()
	want, e := 0, errorAt(c, now)
	if e == api.OK {
		want = localOf(c, now)
	}
	wantLocal(t, c, now, want, e)
}

func wantAdopt(t *testing.T, c api.Clock, now, stamp int, want api.Clock, wantE api.Errno) {
	t.Helper()
	if x, e := clock.Adopt(c, now, stamp); x != want || e != wantE {
		t.Fatalf("Adopt of %v at %d with %d: %v, %d; want %v, %d", c, now, stamp, x, int(e), want, int(wantE))
	}
}

func wantAdoptOf(t *testing.T, c api.Clock, now, stamp int) api.Errno {
	t.Helper()
	want, e := adoptOf(c, now, stamp)
	wantAdopt(t, c, now, stamp, want, e)
	return e
}

func wantRound(t *testing.T, l []api.Clock, hears [][]int, now int, want []api.Clock, wantE api.Errno) {
	t.Helper()
	if x, e := clock.Round(l, hears, now); !slices.Equal(x, want) || e != wantE {
		t.Fatalf("Round of %v at %d with %v: %v, %d; want %v, %d", l, now, hears, x, int(e), want, int(wantE))
	}
}

func wantRoundOf(t *testing.T, l []api.Clock, hears [][]int, now int) api.Errno {
	t.Helper()
	want, e := roundOf(l, hears, now)
	wantRound(t, l, hears, now, want, e)
	return e
}

func wantTarget(t *testing.T, c api.Clock, now, units, wantAt, wantStamp int, wantE api.Errno) {
	t.Helper()
	if at, stamp, e := clock.Target(c, now, units); at != wantAt || stamp != wantStamp || e != wantE {
		t.Fatalf("Target of %v at %d for %d: %d, %d, %d; want %d, %d, %d", c, now, units, at, stamp, int(e), wantAt, wantStamp, int(wantE))
	}
}

func wantTargetOf(t *testing.T, c api.Clock, now, units int) {
	t.Helper()
	at, stamp, e := 0, 0, errorOfTarget(c, now, units)
	if e == api.OK {
		at, stamp = targetOf(c, now, units)
	}
	wantTarget(t, c, now, units, at, stamp, e)
}

// wantFirst checks that a target is the first one, and its time the first one, by what is just before them.
func wantFirst(t *testing.T, c api.Clock, now, units int) {
	t.Helper()
	at, stamp, e := clock.Target(c, now, units)
	if want := errorOfTarget(c, now, units); e != want || e != api.OK && (at != 0 || stamp != 0) {
		t.Fatalf("Target of %v at %d for %d: %d, %d, %d; want the error %d", c, now, units, at, stamp, int(e), int(want))
	}
	if e != api.OK {
		return
	}
	x := localOf(c, now)
	if stamp%(units*unit) != 0 || stamp < x || stamp-units*unit >= x {
		t.Fatalf("Target of %v at %d for %d: %d is not the next one after %d", c, now, units, stamp, x)
	}
	if at < now || localOf(c, at) < stamp || at > now && localOf(c, at-1) >= stamp {
		t.Fatalf("Target of %v at %d for %d: %d is not the first time with %d", c, now, units, at, stamp)
	}
}

func sameTimers(a, b api.Timers) bool { return a.Next == b.Next && slices.Equal(a.List, b.List) }

func wantTimers(t *testing.T, q api.Timers, want api.Errno, what ...any) {
	t.Helper()
	if e := clock.CheckTimers(q); e != want {
		t.Fatalf("CheckTimers of %v: %d; want %d", what, int(e), int(want))
	}
	if e := errorOfTimers(q); e != want {
		t.Fatalf("the definition of %v differs: %d", what, int(e))
	}
}

func wantSet(t *testing.T, q api.Timers, at, id int, want api.Timers, wantE api.Errno) {
	t.Helper()
	if x, e := clock.Set(q, at, id); !sameTimers(x, want) || e != wantE {
		t.Fatalf("Set of %d at %d in %v: %v, %d; want %v, %d", id, at, q, x, int(e), want, int(wantE))
	}
}

func wantSetOf(t *testing.T, q api.Timers, at, id int) api.Errno {
	t.Helper()
	want, e := setOf(q, at, id)
	wantSet(t, q, at, id, want, e)
	return e
}

func wantCancel(t *testing.T, q api.Timers, id int, want api.Timers, wantE api.Errno) {
	t.Helper()
	if x, e := clock.Cancel(q, id); !sameTimers(x, want) || e != wantE {
		t.Fatalf("Cancel of %d in %v: %v, %d; want %v, %d", id, q, x, int(e), want, int(wantE))
	}
}

func wantCancelOf(t *testing.T, q api.Timers, id int) api.Errno {
	t.Helper()
	want, e := cancelOf(q, id)
	wantCancel(t, q, id, want, e)
	return e
}

func wantDue(t *testing.T, q api.Timers, now int, want []int, wantRest api.Timers, wantE api.Errno) {
	t.Helper()
	if ids, rest, e := clock.Due(q, now); !slices.Equal(ids, want) || !sameTimers(rest, wantRest) || e != wantE {
		t.Fatalf("Due at %d in %v: %v, %v, %d; want %v, %v, %d", now, q, ids, rest, int(e), want, wantRest, int(wantE))
	}
}

func wantDueOf(t *testing.T, q api.Timers, now int) api.Errno {
	t.Helper()
	want, rest, e := dueOf(q, now)
	wantDue(t, q, now, want, rest, e)
	return e
}

func wantSoonest(t *testing.T, q api.Timers, want int, wantOk bool, wantE api.Errno) {
	t.Helper()
	if at, ok, e := clock.Soonest(q); at != want || ok != wantOk || e != wantE {
		t.Fatalf("Soonest of %v: %d, %t, %d; want %d, %t, %d", q, at, ok, int(e), want, wantOk, int(wantE))
	}
}

func wantSoonestOf(t *testing.T, q api.Timers) {
	t.Helper()
	at, ok, e := soonestOf(q)
	wantSoonest(t, q, at, ok, e)
}

// wantSeen checks that a random test came across each of the errors at least so often.
func wantSeen(t *testing.T, seen map[api.Errno]int, least int, errors ...api.Errno) {
	t.Helper()
	for _, e := range errors {
		if seen[e] < least {
			t.Errorf("the error %d was seen %d times only", int(e), seen[e])
		}
	}
}

// Numbers, clocks and queues.

// extremes are numbers whose sums and products do not fit into a number, and some at which something changes.
var extremes = []int{
	math.MinInt, math.MinInt + 1, math.MinInt / 2, -1 << 62, -1 << 42, -2*mostTime - 1, -2 * mostTime, -mostTime - 1,
	mostTime + 1, 2 * mostTime, 2*mostTime + 1, 1 << 42, 1 << 62, math.MaxInt / 2, math.MaxInt - 1, math.MaxInt,
}

// invalidClocks are clocks that are not valid.
func invalidClocks() []api.Clock {
	l := []api.Clock{{Ppm: mostPpm + 1}, {Ppm: -mostPpm - 1}, {Offset: mostTime + 1}, {Offset: -mostTime - 1}, {Offset: mostTime + 1, Ppm: mostPpm + 1}}
	for _, n := range extremes {
		l = append(l, api.Clock{Offset: n}, api.Clock{Ppm: n}, api.Clock{Offset: n, Ppm: n})
	}
	return l
}

// edge returns a number at an end of a range, inside or outside, or somewhere in it.
func edge(rng *rand.Rand, least, most int) int {
	l := []int{least, least - 1, least + 1, most, most - 1, most + 1, math.MinInt, math.MaxInt}
	if i := rng.Intn(3 * len(l)); i < len(l) {
		return l[i]
	}
	return inside(rng, least, most)
}

// inside returns a number of a range: small or large, or at an end.
func inside(rng *rand.Rand, least, most int) int {
	n := least + rng.Intn(most-least+1)
	switch rng.Intn(4) {
	case 0:
		n %= 10000
	case 1:
		n = []int{least, most}[rng.Intn(2)]
	}
	return max(least, min(n, most))
}

func randomClock(rng *rand.Rand) api.Clock {
	return api.Clock{Offset: inside(rng, -mostTime, mostTime), Ppm: inside(rng, -mostPpm, mostPpm)}
}

func randomHears(rng *rand.Rand, n int) [][]int {
	hears := make([][]int, n)
	for i := range hears {
		for range rng.Intn(6) * rng.Intn(2) {
			hears[i] = append(hears[i], rng.Intn(n))
		}
	}
	return hears
}

// randomTimers returns a valid queue, with many timers of the same time and of the same id.
func randomTimers(rng *rand.Rand) api.Timers {
	var q api.Timers
	q.Next = rng.Intn(3)
	spread := 1 + rng.Intn(50)
	n := rng.Intn(12)
	if rng.Intn(10) == 0 {
		n = mostTimers - rng.Intn(2)
	}
	for range n {
		at := rng.Intn(spread)
		if rng.Intn(20) == 0 {
			at = mostTime - at
		}
		q.List = append(q.List, api.Timer{At: at, Id: rng.Intn(10) - 3, Seq: q.Next})
		q.Next += 1 + rng.Intn(3)*rng.Intn(2)
	}
	if rng.Intn(10) == 0 {
		q.Next = mostTime - rng.Intn(2)
	}
	return q
}

// damaged returns a copy of a queue with a change that often makes it invalid.
func damaged(rng *rand.Rand, q api.Timers) api.Timers {
	q.List = slices.Clone(q.List)
	if len(q.List) == 0 {
		q.Next = edge(rng, 0, mostTime)
		return q
	}
	i := rng.Intn(len(q.List))
	switch rng.Intn(5) {
	case 0:
		q.Next = edge(rng, q.List[len(q.List)-1].Seq+1, mostTime)
	case 1:
		q.List[i].At = edge(rng, 0, mostTime)
	case 2:
		q.List[i].Seq = edge(rng, 0, q.Next-1)
	case 3:
		k := rng.Intn(len(q.List))
		q.List[i].Seq, q.List[k].Seq = q.List[k].Seq, q.List[i].Seq
	case 4:
		q.List = append(q.List, api.Timer{Seq: q.Next})
		q.Next++
	}
	return q
}

// queue sets timers with the ids 0, 1, 2 and so on at these times.
func queue(ats ...int) api.Timers {
	var q api.Timers
	for i, at := range ats {
		q.List = append(q.List, api.Timer{At: at, Id: i, Seq: i})
		q.Next = i + 1
	}
	return q
}

// with returns a changed queue of four timers.
func with(change func(q *api.Timers)) api.Timers {
	q := api.Timers{Next: 9, List: []api.Timer{{At: 30, Id: 4, Seq: 1}, {At: 10, Id: 5, Seq: 2}, {At: 20, Id: 4, Seq: 5}, {At: 10, Id: -6, Seq: 7}}}
	change(&q)
	return q
}

// invalidTimers are queues that are not valid.
func invalidTimers() []api.Timers {
	l := []api.Timers{
		{Next: -1}, {Next: mostTime + 1}, queue(make([]int, mostTimers+1)...), queue(1, 2, -1), queue(mostTime + 1),
		{List: []api.Timer{{}}}, {Next: 2, List: []api.Timer{{Seq: 1}, {Seq: 1}}}, {Next: 2, List: []api.Timer{{Seq: 1}, {Seq: 0}}},
	}
	for _, bad := range extremes {
		l = append(l, with(func(q *api.Timers) { q.List[1].At = bad }), with(func(q *api.Timers) { q.List[2].Seq = bad }))
		if !within(bad, 0, mostTime) {
			l = append(l, api.Timers{Next: bad}, with(func(q *api.Timers) { q.Next = bad }))
		}
	}
	return l
}

// P12.1

func TestCheck(t *testing.T) {
	for _, offset := range []int{-mostTime, -mostTime + 1, -1, 0, 1, mostTime - 1, mostTime} {
		for ppm := -300; ppm <= 300; ppm++ {
			want := api.OK
			if ppm < -100 || ppm > 100 {
				want = api.ErrBad
			}
			wantCheck(t, api.Clock{Offset: offset, Ppm: ppm}, want)
		}
	}
	wantCheck(t, api.Clock{Offset: 1 << 40, Ppm: 100}, api.OK)
	wantCheck(t, api.Clock{Offset: 1<<40 + 1, Ppm: 100}, api.ErrBad)
	wantCheck(t, api.Clock{Offset: -1 << 40, Ppm: -100}, api.OK)
	wantCheck(t, api.Clock{Offset: -1<<40 - 1, Ppm: -100}, api.ErrBad)
	for _, c := range invalidClocks() {
		wantCheck(t, c, api.ErrBad)
	}
}

func TestLocal(t *testing.T) {
	for _, c := range []struct{ offset, ppm, now, want int }{
		{0, 0, 0, 0},
		{0, 0, 7, 7},
		{5, 0, 7, 12},
		{-5, 0, 3, -2},
		{5, 100, 1000000, 1000105},
		{0, -1, 1, 0},
		{0, -1, 0, 0},
		{0, -1, 2, 1},
		{0, -1, 1000000, 999999},
		{0, -1, 1000001, 999999},
		{0, -1, 1000002, 1000000},
		{0, 1, 999999, 999999},
		{0, 1, 1000000, 1000001},
		{0, 100, 9999, 9999},
		{0, 100, 10000, 10001},
		{0, -100, 10000, 9999},
		{0, -100, 10001, 9999},
		{0, -100, 9999, 9998},
		{0, 3, 333333, 333333},
		{0, 3, 333334, 333335},
		{-mostTime, 0, 0, -mostTime},
		{mostTime, 0, mostTime, 2 * mostTime},
		{mostTime, 100, mostTime, 2*mostTime + 109951162}, // 109,951,162.7776
		{0, -100, mostTime, mostTime - 109951163},
		{-mostTime, 0, mostTime, 0},
	} {
		wantLocal(t, api.Clock{Offset: c.offset, Ppm: c.ppm}, c.now, c.want, api.OK)
	}
}

func TestLocalOfAllDrifts(t *testing.T) {
	for ppm := -100; ppm <= 100; ppm++ {
		for _, from := range []int{0, 9900, 333300, 999900, 1000000, 123456789, mostTime / 2, mostTime - 150} {
			for now := from; now <= from+150; now++ {
				wantLocalOf(t, api.Clock{Offset: -77, Ppm: ppm}, now)
			}
		}
	}
}

func TestRandomLocal(t *testing.T) {
	rng := rand.New(rand.NewSource(1))
	for range 100000 {
		wantLocalOf(t, randomClock(rng), edge(rng, 0, mostTime))
	}
}

func TestLocalErrors(t *testing.T) {
	for _, now := range append([]int{0, 1, -1, mostTime}, extremes...) {
		for _, c := range invalidClocks() {
			wantLocal(t, c, now, 0, api.ErrBad)
		}
	}
	for _, now := range append([]int{-1}, extremes...) {
		wantLocal(t, api.Clock{Offset: 5, Ppm: -7}, now, 0, api.ErrArg)
	}
	wantLocal(t, api.Clock{Offset: 5}, mostTime, mostTime+5, api.OK)
}

func TestAdopt(t *testing.T) {
	for _, c := range []struct {
		c          api.Clock
		now, stamp int
		want       int // the Offset
	}{
		{api.Clock{}, 10, 9, 0},
		{api.Clock{}, 10, 10, 0},
		{api.Clock{}, 10, 11, 1},
		{api.Clock{}, 10, -2 * mostTime, 0},
		{api.Clock{}, 0, mostTime, mostTime},
		{api.Clock{}, mostTime, 2 * mostTime, mostTime},
		{api.Clock{Offset: -mostTime}, 0, mostTime, mostTime},
		{api.Clock{Offset: -mostTime}, 0, -2 * mostTime, -mostTime},
		{api.Clock{Offset: -mostTime}, 0, -mostTime + 1, -mostTime + 1},
		{api.Clock{Offset: 5, Ppm: 100}, 1000000, 1000105, 5},
		{api.Clock{Offset: 5, Ppm: 100}, 1000000, 1000106, 6},
		{api.Clock{Offset: 5, Ppm: 100}, 1000000, 1000200, 100},
		{api.Clock{Ppm: -1}, 1, 0, 0},
		{api.Clock{Ppm: -1}, 1, 1, 1},
		{api.Clock{Offset: mostTime, Ppm: 100}, mostTime, 2 * mostTime, mostTime},
	} {
		wantAdopt(t, c.c, c.now, c.stamp, api.Clock{Offset: c.want, Ppm: c.c.Ppm}, api.OK)
	}
}

func TestAdoptErrors(t *testing.T) {
	numbers := append([]int{0, 5, -1, mostTime}, extremes...)
	for _, n := range numbers {
		for _, c := range invalidClocks() {
			wantAdopt(t, c, n, 0, api.Clock{}, api.ErrBad)
			wantAdopt(t, c, 0, n, api.Clock{}, api.ErrBad)
			wantAdopt(t, c, n, n, api.Clock{}, api.ErrBad)
		}
		for _, m := range numbers {
			wantAdoptOf(t, api.Clock{Offset: 7, Ppm: 3}, n, m)
		}
	}
	c := api.Clock{Offset: 9, Ppm: 100}
	wantAdopt(t, c, -1, 0, api.Clock{}, api.ErrArg)
	wantAdopt(t, c, mostTime+1, 0, api.Clock{}, api.ErrArg)
	wantAdopt(t, c, 0, -2*mostTime, c, api.OK)
	wantAdopt(t, c, 0, -2*mostTime-1, api.Clock{}, api.ErrArg)
	wantAdopt(t, c, 0, 2*mostTime, api.Clock{}, api.ErrBad)
	wantAdopt(t, c, 0, 2*mostTime+1, api.Clock{}, api.ErrArg)
	wantAdopt(t, c, 0, mostTime, api.Clock{Offset: mostTime, Ppm: 100}, api.OK)
	wantAdopt(t, c, 0, mostTime+1, api.Clock{}, api.ErrBad)
	wantAdopt(t, c, 1, mostTime+1, api.Clock{Offset: mostTime, Ppm: 100}, api.OK)
	wantAdopt(t, c, 1, mostTime+2, api.Clock{}, api.ErrBad)
}

func TestRandomAdopt(t *testing.T) {
	rng := rand.New(rand.NewSource(2))
	seen := map[api.Errno]int{}
	for range 100000 {
		c, now := randomClock(rng), edge(rng, 0, mostTime)
		if rng.Intn(20) == 0 {
			c.Ppm = edge(rng, -mostPpm, mostPpm)
		}
		seen[wantAdoptOf(t, c, now, edge(rng, -2*mostTime, 2*mostTime))]++
		if errorAt(c, now) == api.OK {
			for near := -2; near <= 2; near++ {
				seen[wantAdoptOf(t, c, now, localOf(c, now)+near)]++
			}
		}
	}
	wantSeen(t, seen, 1000, api.OK, api.ErrArg, api.ErrBad)
}

// P12.2

func TestRound(t *testing.T) {
	l := []api.Clock{{Offset: 100}, {Offset: 250, Ppm: -100}, {}, {Offset: -10, Ppm: 50}}
	for _, c := range []struct {
		hears [][]int
		now   int
		want  []int // the Offsets
	}{
		{[][]int{nil, nil, nil, nil}, 0, []int{100, 250, 0, -10}},
		{[][]int{{}, {}, {}, {}}, mostTime, []int{100, 250, 0, -10}},
		{[][]int{{1}, {0}, nil, nil}, 0, []int{250, 250, 0, -10}},
		{[][]int{{0}, {1}, {2}, {3}}, 0, []int{100, 250, 0, -10}},
		{[][]int{nil, nil, {0, 1, 3}, nil}, 0, []int{100, 250, 250, -10}},
		{[][]int{nil, nil, {1, 0}, {0, 0, 0}}, 0, []int{100, 250, 250, 100}},
		{[][]int{nil, nil, nil, {2, 2, 3}}, 0, []int{100, 250, 0, 0}},
		{[][]int{{1}, nil, {0}, {2}}, 0, []int{250, 250, 100, 0}}, // what was before the round is heard
		{[][]int{{2, 3}, {2}, {3}, nil}, 0, []int{100, 250, 0, -10}},
		{[][]int{nil, nil, {1}, nil}, 1000000, []int{100, 250, 150, -10}},
		{[][]int{nil, {0, 2, 3}, nil, nil}, 2000000, []int{100, 300, 0, -10}}, // their local times: 2,000,100, 2,000,050, 2,000,000, 2,000,090
		{[][]int{nil, nil, {3}, nil}, 2000000, []int{100, 250, 90, -10}},
		{[][]int{nil, nil, nil, {0}}, 2000000, []int{100, 250, 0, 0}},
	} {
		want := slices.Clone(l)
		for i := range want {
			want[i].Offset = c.want[i]
		}
		wantRound(t, l, c.hears, c.now, want, api.OK)
	}
}

func TestRoundOfNumbersOfClocks(t *testing.T) {
	for n := range 70 {
		l := make([]api.Clock, n)
		for i := range l {
			l[i] = api.Clock{Offset: 10 * i, Ppm: i % 3}
		}
		for m := range 70 {
			want, wantE := l, api.OK
			if n > 32 || m != n {
				want, wantE = nil, api.ErrArg
			}
			wantRound(t, l, make([][]int, m), 1234567, want, wantE)
		}
		if n > 0 {
			hears := make([][]int, n)
			hears[0] = []int{n - 1}
			wantRoundOf(t, l, hears, 1234567)
		}
	}
	wantRound(t, nil, nil, 0, nil, api.OK)
	wantRound(t, []api.Clock{}, [][]int{}, mostTime, nil, api.OK)
}

func TestRoundErrors(t *testing.T) {
	good := []api.Clock{{Offset: 100}, {Offset: 250, Ppm: -100}, {}}
	for _, bad := range invalidClocks() {
		for i := range good {
			l := slices.Clone(good)
			l[i] = bad
			for _, now := range append([]int{0, -1}, extremes...) {
				wantRound(t, l, [][]int{nil, nil, nil}, now, nil, api.ErrBad)
			}
			wantRound(t, l, nil, 0, nil, api.ErrBad)
			wantRound(t, l, [][]int{{3}, nil, {-1}}, -1, nil, api.ErrBad)
		}
		many := make([]api.Clock, 40)
		many[39] = bad
		wantRound(t, many, make([][]int, 40), 0, nil, api.ErrBad)
	}
	for _, now := range append([]int{-1}, extremes...) {
		wantRound(t, good, [][]int{nil, nil, nil}, now, nil, api.ErrArg)
	}
	for i := range good {
		for _, bad := range append([]int{-1, 3, 32}, extremes...) {
			hears := [][]int{{0, 1, 2}, {0, 1, 2}, {0, 1, 2}}
			wantRoundOf(t, good, hears, 5)
			for k := range hears[i] {
				hears[i][k] = bad
				wantRound(t, good, hears, 5, nil, api.ErrArg)
				hears[i][k] = k
			}
			hears[i] = []int{bad}
			wantRound(t, good, hears, 5, nil, api.ErrArg)
		}
	}
}

// The Offset of a clock that would have to be greater than MaxTime.
func TestRoundOfTooGreatResults(t *testing.T) {
	fast, slow := api.Clock{Offset: mostTime, Ppm: 1}, api.Clock{Ppm: 0}
	wantRound(t, []api.Clock{fast, slow}, [][]int{nil, {0}}, 999999, []api.Clock{fast, {Offset: mostTime}}, api.OK)
	wantRound(t, []api.Clock{fast, slow}, [][]int{nil, {0}}, 1000000, nil, api.ErrBad)
	wantRound(t, []api.Clock{slow, slow, fast}, [][]int{{2}, nil, nil}, 1000000, nil, api.ErrBad)
	wantRound(t, []api.Clock{slow, slow, fast}, [][]int{{2, 1}, {2}, {0}}, 1000000, nil, api.ErrBad)
	wantRound(t, []api.Clock{slow, slow, fast}, [][]int{{1}, {0}, {0, 1}}, 1000000, []api.Clock{slow, slow, fast}, api.OK)
	wantRound(t, []api.Clock{slow, fast}, [][]int{{1}, {7}}, 1000000, nil, api.ErrArg) // which is named before
}

// Local times may be greater than any stamp that Adopt takes.
func TestRoundOfLateTimes(t *testing.T) {
	ahead, fast, slow := api.Clock{Offset: mostTime, Ppm: 100}, api.Clock{Ppm: 100}, api.Clock{Offset: 3}
	if x := localOf(ahead, mostTime); x <= 2*mostTime {
		t.Fatal("the local time is too small for this test:", x)
	}
	wantRound(t, []api.Clock{ahead, fast}, [][]int{nil, {0}}, mostTime, []api.Clock{ahead, ahead}, api.OK)
	wantRound(t, []api.Clock{ahead, slow}, [][]int{nil, {0}}, mostTime, nil, api.ErrBad)
	wantRound(t, []api.Clock{ahead, slow}, [][]int{{1}, nil}, mostTime, []api.Clock{ahead, slow}, api.OK)
}

func TestRandomRounds(t *testing.T) {
	rng := rand.New(rand.NewSource(3))
	seen := map[api.Errno]int{}
	for range 30000 {
		l, hears, now := randomRound(rng)
		seen[wantRoundOf(t, l, hears, now)]++
	}
	wantSeen(t, seen, 1000, api.OK, api.ErrArg, api.ErrBad)
}

// randomRound returns the arguments of a round, some of which are not valid.
func randomRound(rng *rand.Rand) ([]api.Clock, [][]int, int) {
	n := 1 + rng.Intn(6)
	if rng.Intn(20) == 0 {
		n = edge(rng, 1, 32)
		n = max(1, min(n, 40))
	}
	l := make([]api.Clock, n)
	for i := range l {
		l[i] = randomClock(rng)
		if rng.Intn(40) == 0 {
			l[i].Offset = edge(rng, -mostTime, mostTime)
		}
	}
	hears := randomHears(rng, n)
	if rng.Intn(20) == 0 {
		hears = randomHears(rng, n+rng.Intn(3)-1)
	}
	for i := range hears {
		if rng.Intn(100) == 0 {
			hears[i] = append(hears[i], edge(rng, 0, n-1))
		}
	}
	return l, hears, edge(rng, 0, mostTime)
}

// P12.3

func TestTarget(t *testing.T) {
	for _, c := range []struct {
		c                     api.Clock
		now, units, at, stamp int
	}{
		{api.Clock{}, 1, 1, 1024, 1024},
		{api.Clock{}, 0, 1, 0, 0},
		{api.Clock{}, 1023, 1, 1024, 1024},
		{api.Clock{}, 1024, 1, 1024, 1024},
		{api.Clock{}, 1025, 1, 2048, 2048},
		{api.Clock{}, 1025, 100, 102400, 102400},
		{api.Clock{}, 102401, 100, 204800, 204800},
		{api.Clock{}, 1, 65535, 67107840, 67107840},
		{api.Clock{Offset: 1000}, 0, 1, 24, 1024},
		{api.Clock{Offset: 1024}, 0, 1, 0, 1024},
		{api.Clock{Offset: 1025}, 0, 1, 1023, 2048},
		{api.Clock{Offset: -1}, 0, 1, 1, 0},
		{api.Clock{Offset: -1023}, 0, 1, 1023, 0},
		{api.Clock{Offset: -1024}, 0, 1, 0, -1024},
		{api.Clock{Offset: -1025}, 0, 1, 1, -1024},
		{api.Clock{Offset: -1025}, 0, 2, 1025, 0},
		{api.Clock{Offset: -2049}, 0, 2, 1, -2048},
		{api.Clock{Offset: -mostTime}, 0, 1, 0, -mostTime},
		{api.Clock{Offset: -mostTime}, 5, 1, 1024, -mostTime + 1024},
		{api.Clock{Ppm: 100}, 1, 100, 102390, 102400}, // 102,390 + 10.239
		{api.Clock{Ppm: -100}, 1, 100, 1, 0},
		{api.Clock{Ppm: -100}, 2, 100, 102411, 102400}, // 102,411 - 10.2411
		{api.Clock{Ppm: -1}, 1, 1, 1, 0},
		{api.Clock{Ppm: -1}, 2, 1, 1025, 1024},
		{api.Clock{Offset: 1, Ppm: -1}, 1022, 1, 1024, 1024},
		{api.Clock{Offset: 24, Ppm: -100}, 10000, 1, 10218, 10240},  // 10,218 + 24 - 1.0218
		{api.Clock{Offset: 240, Ppm: -100}, 10000, 1, 10002, 10240}, // stands still at first
		{api.Clock{Offset: 239, Ppm: 100}, 9999, 1, 10000, 10240},   // goes on by 2
		{api.Clock{Offset: 240, Ppm: 100}, 9999, 1, 10000, 10240},   // goes past the target
		{api.Clock{}, mostTime, 1, mostTime, mostTime},
		{api.Clock{}, mostTime, 3, mostTime + 2048, mostTime + 2048},
		{api.Clock{Offset: -1}, mostTime, 1, mostTime + 1, mostTime},
		{api.Clock{Offset: mostTime, Ppm: 100}, mostTime, 65535, 1099569439921, 2199191024640},
		{api.Clock{Offset: -mostTime, Ppm: -100}, mostTime, 65535, 1099554475384, -67107840},
	} {
		wantTarget(t, c.c, c.now, c.units, c.at, c.stamp, api.OK)
	}
}

func TestTargetOfAllTimes(t *testing.T) {
	for _, ppm := range []int{-100, -99, -50, -1, 0, 1, 33, 99, 100} {
		for _, offset := range []int{0, -1, 1, 500, -500, 3000, -3000, -mostTime, mostTime} {
			for _, from := range []int{0, 9000, 1000000, mostTime - 1100} {
				for now := from; now <= from+1100; now += 1 + now%7 {
					wantTargetOf(t, api.Clock{Offset: offset, Ppm: ppm}, now, 1+now%3)
				}
			}
		}
	}
}

// Steps of a few microseconds, in which a clock may stand still or go on by 2.
func TestTargetThatIsNear(t *testing.T) {
	for ppm := -100; ppm <= 100; ppm++ {
		for from := 9950; from <= 10050; from++ {
			for ahead := range 4 {
				c := api.Clock{Ppm: ppm}
				c.Offset = 20*unit - localOf(c, from) - ahead
				wantTargetOf(t, c, from, 5)
			}
		}
	}
}

func TestRandomTargets(t *testing.T) {
	rng := rand.New(rand.NewSource(4))
	for range 100000 {
		c := randomClock(rng)
		if rng.Intn(20) == 0 {
			c.Offset = edge(rng, -mostTime, mostTime)
		}
		wantFirst(t, c, edge(rng, 0, mostTime), edge(rng, 1, mostInterval))
	}
	for range 3000 {
		wantTargetOf(t, randomClock(rng), edge(rng, 0, mostTime), edge(rng, 1, 9))
	}
}

func TestTargetErrors(t *testing.T) {
	numbers := append([]int{0, 1, -1, 65535, 65536}, extremes...)
	for _, c := range invalidClocks() {
		for _, n := range numbers {
			wantTarget(t, c, n, 1, 0, 0, api.ErrBad)
			wantTarget(t, c, 1, n, 0, 0, api.ErrBad)
			wantTarget(t, c, n, n, 0, 0, api.ErrBad)
		}
	}
	c := api.Clock{Offset: 5, Ppm: 7}
	for _, bad := range append([]int{-1}, extremes...) {
		wantTarget(t, c, bad, 1, 0, 0, api.ErrArg)
	}
	for _, bad := range append([]int{0, -1, 65536}, extremes...) {
		wantTarget(t, c, 1, bad, 0, 0, api.ErrArg)
		wantTarget(t, c, bad, bad, 0, 0, api.ErrArg)
	}
}

// The targets of the last time, whose times are mostly greater than MaxTime.
func TestLatestTarget(t *testing.T) {
	for _, ppm := range []int{-100, 0, 100} {
		for _, offset := range []int{-mostTime, 0, mostTime} {
			for units := 1; units <= mostInterval; units += 97 {
				wantFirst(t, api.Clock{Offset: offset, Ppm: ppm}, mostTime, units)
			}
			wantFirst(t, api.Clock{Offset: offset, Ppm: ppm}, mostTime, mostInterval)
		}
	}
}

// P12.4

func TestCheckTimers(t *testing.T) {
	for _, c := range []struct {
		what   string
		change func(q *api.Timers)
		want   api.Errno
	}{
		{"a queue", func(q *api.Timers) {}, api.OK},
		{"the first Seq", func(q *api.Timers) { q.List[0].Seq = 0 }, api.OK},
		{"a Seq before the first", func(q *api.Timers) { q.List[0].Seq = -1 }, api.ErrBad},
		{"the last Seq", func(q *api.Timers) { q.List[3].Seq = 8 }, api.OK},
		{"the next Seq", func(q *api.Timers) { q.List[3].Seq = 9 }, api.ErrBad},
		{"a Seq after the next one", func(q *api.Timers) { q.List[3].Seq = 10 }, api.ErrBad},
		{"the least Next", func(q *api.Timers) { q.Next = 8 }, api.OK},
		{"a Next that was used", func(q *api.Timers) { q.Next = 7 }, api.ErrBad},
		{"a Next that was used before", func(q *api.Timers) { q.Next = 2 }, api.ErrBad},
		{"the greatest Next", func(q *api.Timers) { q.Next = mostTime }, api.OK},
		{"a Next too great", func(q *api.Timers) { q.Next = mostTime + 1 }, api.ErrBad},
		{"a negative Next", func(q *api.Timers) { q.Next = -1 }, api.ErrBad},
		{"the same Seq", func(q *api.Timers) { q.List[2].Seq = 2 }, api.ErrBad},
		{"a smaller Seq", func(q *api.Timers) { q.List[2].Seq = 1 }, api.ErrBad},
		{"a Seq one greater", func(q *api.Timers) { q.List[2].Seq = 3 }, api.OK},
		{"the same Seq at the end", func(q *api.Timers) { q.List[3].Seq = 5 }, api.ErrBad},
		{"the first time", func(q *api.Timers) { q.List[1].At = 0 }, api.OK},
		{"a time before the first", func(q *api.Timers) { q.List[1].At = -1 }, api.ErrBad},
		{"the last time", func(q *api.Timers) { q.List[3].At = mostTime }, api.OK},
		{"a time after the last", func(q *api.Timers) { q.List[3].At = mostTime + 1 }, api.ErrBad},
		{"any id", func(q *api.Timers) { q.List[0].Id, q.List[1].Id = math.MinInt, math.MaxInt }, api.OK},
		{"no timers", func(q *api.Timers) { q.List = nil }, api.OK},
		{"an empty list", func(q *api.Timers) { q.List = []api.Timer{} }, api.OK},
		{"no timers, a negative Next", func(q *api.Timers) { q.List, q.Next = nil, -1 }, api.ErrBad},
		{"no timers, a Next too great", func(q *api.Timers) { q.List, q.Next = nil, mostTime+1 }, api.ErrBad},
		{"no timers, the first Next", func(q *api.Timers) { q.List, q.Next = nil, 0 }, api.OK},
	} {
		wantTimers(t, with(c.change), c.want, c.what)
	}
	wantTimers(t, api.Timers{}, api.OK, "a zero queue")
	for i, q := range invalidTimers() {
		wantTimers(t, q, api.ErrBad, "invalid queue", i)
	}
}

func TestCheckOfNumbersOfTimers(t *testing.T) {
	for n := range 600 {
		want := api.OK
		if n > 256 {
			want = api.ErrBad
		}
		wantTimers(t, queue(make([]int, n)...), want, n, "timers")
	}
}

// Each number of each timer is looked at.
func TestCheckOfEachTimer(t *testing.T) {
	for _, n := range []int{1, 2, 5, 256} {
		for i := range n {
			for _, bad := range append([]int{-1}, extremes...) {
				q := queue(make([]int, n)...)
				q.List[i].At = bad
				wantTimers(t, q, api.ErrBad, "a bad time", bad)
				q = queue(make([]int, n)...)
				q.List[i].Seq = bad
				wantTimers(t, q, api.ErrBad, "a bad Seq", bad)
			}
			if i > 0 {
				q := queue(make([]int, n)...)
				q.List[i].Seq = i - 1
				wantTimers(t, q, api.ErrBad, "the same Seq", i)
			}
		}
	}
}

func TestSet(t *testing.T) {
	wantSet(t, api.Timers{}, 30, 7, api.Timers{Next: 1, List: []api.Timer{{At: 30, Id: 7, Seq: 0}}}, api.OK)
	wantSet(t, api.Timers{Next: 5}, 0, -7, api.Timers{Next: 6, List: []api.Timer{{At: 0, Id: -7, Seq: 5}}}, api.OK)
	q := with(func(q *api.Timers) {})
	wantSet(t, q, 10, 4, with(func(q *api.Timers) {
		q.Next, q.List = 10, append(q.List, api.Timer{At: 10, Id: 4, Seq: 9})
	}), api.OK)
	wantSet(t, q, mostTime, math.MinInt, with(func(q *api.Timers) {
		q.Next, q.List = 10, append(q.List, api.Timer{At: mostTime, Id: math.MinInt, Seq: 9})
	}), api.OK)
	last := api.Timers{Next: mostTime - 1}
	wantSet(t, last, 3, 2, api.Timers{Next: mostTime, List: []api.Timer{{At: 3, Id: 2, Seq: mostTime - 1}}}, api.OK)
}

func TestSetErrors(t *testing.T) {
	full, almost := queue(make([]int, 256)...), queue(make([]int, 255)...)
	wantSet(t, almost, 5, 255, queue(append(make([]int, 255), 5)...), api.OK)
	wantSet(t, full, 5, 255, api.Timers{}, api.ErrFull)
	wantSet(t, api.Timers{Next: mostTime}, 5, 1, api.Timers{}, api.ErrFull)
	wantSet(t, with(func(q *api.Timers) { q.Next = mostTime }), 5, 1, api.Timers{}, api.ErrFull)
	for _, bad := range append([]int{-1}, extremes...) {
		wantSet(t, api.Timers{}, bad, 1, api.Timers{}, api.ErrArg)
		wantSet(t, full, bad, 1, api.Timers{}, api.ErrArg)
		wantSet(t, api.Timers{Next: mostTime}, bad, 1, api.Timers{}, api.ErrArg)
	}
}

func TestCancel(t *testing.T) {
	q := with(func(q *api.Timers) {})
	for _, c := range []struct {
		id   int
		want []api.Timer
	}{
		{4, []api.Timer{q.List[1], q.List[3]}},
		{5, []api.Timer{q.List[0], q.List[2], q.List[3]}},
		{-6, q.List[:3]},
		{6, q.List},
		{0, q.List},
		{math.MinInt, q.List},
		{math.MaxInt, q.List},
	} {
		wantCancel(t, q, c.id, api.Timers{Next: 9, List: c.want}, api.OK)
	}
	wantCancel(t, api.Timers{}, 0, api.Timers{}, api.OK)
	wantCancel(t, api.Timers{Next: 7}, 0, api.Timers{Next: 7}, api.OK)
	all := queue(make([]int, 256)...)
	for i := range all.List {
		all.List[i].Id = 3
	}
	wantCancel(t, all, 3, api.Timers{Next: 256}, api.OK)
	wantCancel(t, all, 2, all, api.OK)
}

func TestDue(t *testing.T) {
	q := with(func(q *api.Timers) {})
	rest := func(l ...int) api.Timers {
		r := api.Timers{Next: 9}
		for _, i := range l {
			r.List = append(r.List, q.List[i])
		}
		return r
	}
	for _, c := range []struct {
		now  int
		ids  []int
		rest api.Timers
	}{
		{0, nil, q},
		{9, nil, q},
		{10, []int{5, -6}, rest(0, 2)},
		{11, []int{5, -6}, rest(0, 2)},
		{19, []int{5, -6}, rest(0, 2)},
		{20, []int{5, -6, 4}, rest(0)},
		{29, []int{5, -6, 4}, rest(0)},
		{30, []int{5, -6, 4, 4}, rest()},
		{mostTime, []int{5, -6, 4, 4}, rest()},
		{mostTime + 1, []int{5, -6, 4, 4}, rest()},
		{math.MaxInt, []int{5, -6, 4, 4}, rest()},
		{-1, nil, q},
		{math.MinInt, nil, q},
	} {
		wantDue(t, q, c.now, c.ids, c.rest, api.OK)
	}
	wantDue(t, api.Timers{}, 0, nil, api.Timers{}, api.OK)
	wantDue(t, api.Timers{Next: 3}, mostTime, nil, api.Timers{Next: 3}, api.OK)
	wantDue(t, queue(0), 0, []int{0}, api.Timers{Next: 1}, api.OK)
	wantDue(t, queue(0), -1, nil, queue(0), api.OK)
	wantDue(t, queue(mostTime), mostTime-1, nil, queue(mostTime), api.OK)
	wantDue(t, queue(mostTime), mostTime, []int{0}, api.Timers{Next: 1}, api.OK)
}

// Timers of the same time are due in the order in which they were set, however many there are.
func TestDueAtTheSameTime(t *testing.T) {
	for _, n := range []int{2, 11, 12, 13, 50, 51, 100, 256} {
		var ids []int
		for i := range n {
			ids = append(ids, i)
		}
		wantDue(t, queue(slices.Repeat([]int{5}, n)...), 5, ids, api.Timers{Next: n}, api.OK)

		var ats, odd, even []int
		for i := range n {
			ats = append(ats, 7-i%2)
			if i%2 == 1 {
				odd = append(odd, i)
			} else {
				even = append(even, i)
			}
		}
		wantDue(t, queue(ats...), 7, slices.Concat(odd, even), api.Timers{Next: n}, api.OK)
	}
}

func TestSoonest(t *testing.T) {
	wantSoonest(t, api.Timers{}, 0, false, api.OK)
	wantSoonest(t, api.Timers{Next: 5}, 0, false, api.OK)
	wantSoonest(t, queue(0), 0, true, api.OK)
	wantSoonest(t, queue(7), 7, true, api.OK)
	wantSoonest(t, queue(30, 10, 20, 10), 10, true, api.OK)
	wantSoonest(t, queue(30, 20, 5), 5, true, api.OK)
	wantSoonest(t, queue(1, 20, 5), 1, true, api.OK)
	wantSoonest(t, queue(mostTime), mostTime, true, api.OK)
	wantSoonest(t, queue(mostTime, mostTime-1), mostTime-1, true, api.OK)
}

// All calls return the error of a queue that is not valid, whatever else there is.
func TestInvalidTimers(t *testing.T) {
	for _, q := range invalidTimers() {
		wantSoonest(t, q, 0, false, api.ErrBad)
		for _, n := range append([]int{-1, 0, 4, 15, mostTime}, extremes...) {
			wantSet(t, q, n, 1, api.Timers{}, api.ErrBad)
			wantSet(t, q, 1, n, api.Timers{}, api.ErrBad)
			wantCancel(t, q, n, api.Timers{}, api.ErrBad)
			wantDue(t, q, n, nil, api.Timers{}, api.ErrBad)
		}
	}
}

func TestRandomTimers(t *testing.T) {
	rng := rand.New(rand.NewSource(5))
	seen := map[api.Errno]int{}
	for range 20000 {
		q := randomTimers(rng)
		if rng.Intn(3) == 0 {
			q = damaged(rng, q)
		}
		wantTimers(t, q, errorOfTimers(q), q)
		seen[wantSetOf(t, q, edge(rng, 0, mostTime), rng.Intn(10)-3)]++
		wantCancelOf(t, q, rng.Intn(12)-4)
		wantDueOf(t, q, rng.Intn(60)-2)
		wantDueOf(t, q, edge(rng, 0, mostTime))
		wantSoonestOf(t, q)
	}
	wantSeen(t, seen, 500, api.OK, api.ErrArg, api.ErrBad, api.ErrFull)
}

// P12.5

func TestLocalTimeNeverDecreases(t *testing.T) {
	rng := rand.New(rand.NewSource(6))
	for range 2000 {
		c := randomClock(rng)
		now := inside(rng, 0, mostTime-1000)
		before, _ := clock.Local(c, now)
		for range 200 {
			now += rng.Intn(3) * rng.Intn(3)
			x, e := clock.Local(c, now)
			if e != api.OK || x < before {
				t.Fatalf("the local time of %v at %d is %d, and was %d", c, now, x, before)
			}
			before = x
		}
	}
}

func TestNoClockGoesBack(t *testing.T) {
	rng := rand.New(rand.NewSource(7))
	for range 50000 {
		c, now, stamp := randomClock(rng), inside(rng, 0, mostTime), inside(rng, -2*mostTime, 2*mostTime)
		next, e := clock.Adopt(c, now, stamp)
		if e != api.OK {
			continue
		}
		before, _ := clock.Local(c, now)
		if x, e := clock.Local(next, now); e != api.OK || x != max(before, stamp) {
			t.Fatalf("%v has the local time %d at %d, and %d after adopting %d", c, before, now, x, stamp)
		}
		if next.Ppm != c.Ppm {
			t.Fatalf("the drift of %v is %d after adopting %d", c, next.Ppm, stamp)
		}
	}
}

// After a round in which all hear the clock that is ahead, all local times are the same, and drift apart as the promise says.
func TestRoundMakesLocalTimesTheSame(t *testing.T) {
	rng := rand.New(rand.NewSource(8))
	apart := 0
	for range 5000 {
		l := make([]api.Clock, 1+rng.Intn(32))
		now := inside(rng, 0, mostTime/2)
		ahead := 0
		for i := range l {
			l[i] = api.Clock{Offset: rng.Intn(mostTime) - mostTime/2, Ppm: inside(rng, -mostPpm, mostPpm)}
			if localOf(l[i], now) > localOf(l[ahead], now) {
				ahead = i
			}
		}
		hears := randomHears(rng, len(l))
		for i := range hears {
			hears[i] = append(hears[i], ahead)
		}
		next, e := clock.Round(l, hears, now)
		if e != api.OK {
			t.Fatalf("Round of %v at %d: %d", l, now, int(e))
		}
		least, most := spread(next, now)
		if least != most || most != localOf(l[ahead], now) {
			t.Fatalf("after a round of %v at %d, the local times are from %d to %d", l, now, least, most)
		}
		for range 5 {
			later := inside(rng, 0, mostTime/2)
			least, most = spread(next, now+later)
			if 1000000*(most-least-2) > 200*later {
				t.Fatalf("%d after a round of %v at %d, the local times are from %d to %d", later, l, now, least, most)
			}
			apart = max(apart, most-least)
		}
	}
	if apart < 1000 {
		t.Error("no clocks have drifted apart")
	}
}

// spread returns the least and the greatest local time of clocks.
func spread(l []api.Clock, now int) (least, most int) {
	least, most = math.MaxInt, math.MinInt
	for _, c := range l {
		x, _ := clock.Local(c, now)
		least, most = min(least, x), max(most, x)
	}
	return least, most
}

// Past a target, the next one is the next multiple, and a clock has gone past a target by 1 at most when it has reached it.
func TestTargetsFollowEachOther(t *testing.T) {
	rng := rand.New(rand.NewSource(9))
	for range 2000 {
		c, now, units := randomClock(rng), inside(rng, 0, mostTime/2), inside(rng, 1, mostInterval)
		before := math.MinInt
		for range 5 {
			at, stamp, e := clock.Target(c, now, units)
			if e != api.OK || at < now || stamp <= before || before != math.MinInt && stamp != before+units*unit {
				t.Fatalf("the target of %v from %d for %d is %d at %d after %d", c, now, units, stamp, at, before)
			}
			if x := localOf(c, at); x > stamp+1 {
				t.Fatalf("the target %d of %v is at %d, when the local time is %d", stamp, c, at, x)
			}
			now, before = at, stamp
			for localOf(c, now) <= stamp { // past the target
				now++
			}
		}
	}
}

// Timers leave in order, each once, however the time goes on.
func TestTimersLeaveInOrder(t *testing.T) {
	rng := rand.New(rand.NewSource(10))
	for range 1000 {
		var q api.Timers
		set := map[int]api.Timer{} // by id, which is another one for each timer
		now, id := 0, 0
		for range 60 {
			for range rng.Intn(5) {
				q, _ = clock.Set(q, now+rng.Intn(30), id)
				set[id] = q.List[len(q.List)-1]
				id++
			}
			if rng.Intn(4) == 0 && id > 0 {
				gone := rng.Intn(id)
				q, _ = clock.Cancel(q, gone)
				delete(set, gone)
			}
			now += rng.Intn(15)
			q = wantLeft(t, q, set, now)
		}
		wantLeft(t, q, set, mostTime)
		if len(set) != 0 {
			t.Fatalf("some timers did not leave: %v", set)
		}
	}
}

// wantLeft lets timers leave a queue, checks that they were set, were due, and leave in order, and takes them from the set.
func wantLeft(t *testing.T, q api.Timers, set map[int]api.Timer, now int) api.Timers {
	t.Helper()
	ids, rest, e := clock.Due(q, now)
	if e != api.OK {
		t.Fatalf("Due of %v: %d", q, int(e))
	}
	var before api.Timer
	for i, id := range ids {
		x, ok := set[id]
		if !ok || x.At > now || i > 0 && (x.At < before.At || x.At == before.At && x.Seq <= before.Seq) {
			t.Fatalf("at %d, %v leaves behind %v; %t", now, x, before, ok)
		}
		before = x
		delete(set, id)
	}
	if at, ok, _ := clock.Soonest(rest); ok != (len(set) > 0) || ok && at <= now {
		t.Fatalf("at %d, the soonest timer left is at %d; %t", now, at, ok)
	}
	return rest
}

// The example of the chapter.
func TestExample(t *testing.T) {
	wantLocal(t, api.Clock{Offset: 5, Ppm: 100}, 1000000, 1000105, api.OK)
	wantLocal(t, api.Clock{Ppm: -1}, 1, 0, api.OK)
	wantTarget(t, api.Clock{}, 1, 1, 1024, 1024, api.OK)
}

// R2

// guardedList returns a copy of a list with further elements behind its length.
func guardedList[T any](l []T, further T) []T {
	return append(slices.Clone(l), further, further, further)[:len(l)]
}

func guardedTimers(q api.Timers) api.Timers {
	q.List = guardedList(q.List, api.Timer{At: 5, Id: 77, Seq: 78})
	return q
}

// everything returns all that there is, the memory behind the lengths included.
func everything(l []api.Clock, hears [][]int, q api.Timers) string {
	s := fmt.Sprint(l[:cap(l)], hears[:cap(hears)], q.Next, q.List[:cap(q.List)])
	for _, heard := range hears {
		s += fmt.Sprint(heard[:cap(heard)])
	}
	return s
}

func TestArguments(t *testing.T) {
	rng := rand.New(rand.NewSource(11))
	for range 3000 {
		l, hears, now := randomRound(rng)
		l, hears = guardedList(l, api.Clock{Offset: 77}), guardedList(hears, []int{77})
		for i := range hears {
			hears[i] = guardedList(hears[i], 77)
		}
		q := guardedTimers(randomTimers(rng))
		before := everything(l, hears, q)
		clock.Round(l, hears, now)
		clock.CheckTimers(q)
		clock.Set(q, rng.Intn(50), 1)
		clock.Cancel(q, rng.Intn(12)-4)
		clock.Due(q, rng.Intn(60))
		clock.Soonest(q)
		if everything(l, hears, q) != before {
			t.Fatalf("the arguments were changed: %s", before)
		}
	}
}

// overwrite changes all the memory of a list, that behind its length included.
func overwrite[T any](l []T, with T) {
	l = l[:cap(l)]
	for i := range l {
		l[i] = with
	}
}

func TestResultsShareNothing(t *testing.T) {
	l := []api.Clock{{Offset: 1}, {Offset: 2}}
	hears := [][]int{nil, nil}
	for _, heard := range [][]int{nil, {1}} {
		hears[0] = heard
		next, _ := clock.Round(guardedList(l, api.Clock{}), hears, 5)
		again, _ := clock.Round(l, hears, 5)
		want := slices.Clone(again)
		overwrite(next, api.Clock{Offset: 77})
		if !slices.Equal(again, want) || !slices.Equal(l, []api.Clock{{Offset: 1}, {Offset: 2}}) {
			t.Fatal("a result of Round shares memory")
		}
	}

	bad := api.Timer{At: 77, Id: 77, Seq: 77}
	before := with(func(q *api.Timers) {})
	calls := []func(q api.Timers) api.Timers{
		func(q api.Timers) api.Timers { r, _ := clock.Set(q, 3, 4); return r },
		func(q api.Timers) api.Timers { r, _ := clock.Cancel(q, 4); return r },
		func(q api.Timers) api.Timers { r, _ := clock.Cancel(q, 1000); return r },
		func(q api.Timers) api.Timers { _, r, _ := clock.Due(q, 15); return r },
		func(q api.Timers) api.Timers { _, r, _ := clock.Due(q, 0); return r },
		func(q api.Timers) api.Timers { _, r, _ := clock.Due(q, 50); return r },
	}
	for i, call := range calls {
		q := guardedTimers(before)
		r, again := call(q), call(q)
		want := slices.Clone(again.List)
		overwrite(r.List, bad)
		if !sameTimers(q, before) || !slices.Equal(again.List, want) {
			t.Fatalf("result %d shares memory", i)
		}
		overwrite(q.List, bad)
		if !slices.Equal(again.List, want) {
			t.Fatalf("result %d shares memory with the argument", i)
		}
	}
}

// Nothing is kept: a call has the same result after any other calls.
func TestNothingIsKept(t *testing.T) {
	rng := rand.New(rand.NewSource(12))
	l := []api.Clock{{Offset: 100}, {Offset: 250, Ppm: -100}, {}}
	q := with(func(q *api.Timers) {})
	for range 300 {
		clock.Round(randomRound(rng))
		clock.Set(randomTimers(rng), 5, 5)
		clock.Target(randomClock(rng), 5, 5)
		wantRoundOf(t, l, [][]int{{1}, {0}, nil}, 12345)
		wantSetOf(t, q, 5, 6)
		wantDueOf(t, q, 15)
		wantTargetOf(t, l[1], 12345, 2)
	}
}

// R3

func TestNilAndEmptyAreEqual(t *testing.T) {
	for _, q := range []api.Timers{{Next: 4}, {Next: 4, List: []api.Timer{}}} {
		wantTimers(t, q, api.OK, q)
		wantSet(t, q, 1, 2, api.Timers{Next: 5, List: []api.Timer{{At: 1, Id: 2, Seq: 4}}}, api.OK)
		wantCancel(t, q, 1, api.Timers{Next: 4}, api.OK)
		wantDue(t, q, 1, nil, api.Timers{Next: 4}, api.OK)
		wantSoonest(t, q, 0, false, api.OK)
	}
	for _, l := range [][]api.Clock{nil, {}} {
		for _, hears := range [][][]int{nil, {}} {
			wantRound(t, l, hears, 0, nil, api.OK)
		}
	}
}

// R7

func TestAllCallsEnd(t *testing.T) {
	numbers := append([]int{0, 1, -1, 32, 100, 256, 65535, mostTime, -mostTime}, extremes...)
	clocks := append(invalidClocks(), api.Clock{}, api.Clock{Offset: mostTime, Ppm: 100}, api.Clock{Offset: -mostTime, Ppm: -100})
	for _, c := range clocks {
		clock.Check(c)
		for _, n := range numbers {
			clock.Local(c, n)
			clock.Round([]api.Clock{c, c}, [][]int{{n}, nil}, 0)
			clock.Round([]api.Clock{c, c}, [][]int{{1}, {0}}, n)
			for _, m := range numbers {
				clock.Adopt(c, n, m)
				clock.Target(c, n, m)
			}
		}
	}
	queues := append(invalidTimers(), queue(make([]int, 256)...), queue(make([]int, 5000)...), api.Timers{Next: mostTime})
	for _, q := range queues {
		clock.CheckTimers(q)
		clock.Soonest(q)
		for _, n := range numbers {
			clock.Set(q, n, n)
			clock.Cancel(q, n)
			clock.Due(q, n)
		}
	}
	clock.Round(make([]api.Clock, 5000), make([][]int, 5000), 0)
	clock.Round(make([]api.Clock, 1), [][]int{make([]int, 100000)}, 0)
}

func FuzzClock(f *testing.F) {
	f.Add(0, 0, 0, 0, 1)
	f.Add(5, 100, 1000000, 1000106, 100)
	f.Add(0, -1, 1, 0, 1)
	f.Add(240, -100, 10000, 10240, 10)
	f.Add(mostTime, 100, mostTime, 2*mostTime, 65535)
	f.Add(-mostTime, -100, mostTime, -2*mostTime, 65536)
	f.Fuzz(func(t *testing.T, offset, ppm, now, stamp, units int) {
		for _, c := range []api.Clock{{Offset: offset, Ppm: ppm}, {Offset: offset % (mostTime + 1), Ppm: ppm % (mostPpm + 1)}} {
			for _, n := range []int{now, now & (mostTime - 1)} {
				wantLocalOf(t, c, n)
				wantAdoptOf(t, c, n, stamp)
				wantAdoptOf(t, c, n, stamp%(2*mostTime+1))
				wantFirst(t, c, n, units)
				wantFirst(t, c, n, 1+units&(1<<15-1))
				wantTargetOf(t, c, n, 1+units&3)
				other := api.Clock{Offset: stamp % (mostTime + 1), Ppm: units % (mostPpm + 1)}
				wantRoundOf(t, []api.Clock{c, other, {}}, [][]int{{1, 2}, {0}, {0, 1}}, n)
				wantRoundOf(t, []api.Clock{c, other, {}}, [][]int{{stamp}, nil, {units & 3}}, n)
			}
		}
	})
}

// timersOf reads a queue from bytes: its Next, and then timers, with one byte for the At, the Id and how much greater the Seq is than the one before.
func timersOf(b []byte) api.Timers {
	var q api.Timers
	seq := 0
	for len(b) > 3 {
		seq += int(b[2]) - 1
		q.List = append(q.List, api.Timer{At: int(b[0]) - 1, Id: int(b[1]), Seq: seq})
		b = b[3:]
	}
	q.Next = seq + 2
	if len(b) > 0 {
		q.Next += int(b[0]) - 2
	}
	return q
}

func FuzzTimers(f *testing.F) {
	f.Add([]byte{}, 0, 0)
	f.Add([]byte{31, 4, 1, 11, 5, 2, 21, 4, 2, 11, 6, 2, 3}, 20, 4)
	f.Add([]byte{31, 4, 1, 11, 5, 2, 21, 4, 1, 3}, 20, 4)
	f.Add([]byte{5, 4, 2, 0, 5, 2, 1}, -1, 5)
	f.Fuzz(func(t *testing.T, b []byte, at, id int) {
		q := timersOf(b)
		wantTimers(t, q, errorOfTimers(q), q)
		for _, n := range []int{at, at & 255, at & (mostTime - 1)} {
			wantSetOf(t, q, n, id)
			wantDueOf(t, q, n)
		}
		wantCancelOf(t, q, id)
		wantCancelOf(t, q, id&255)
		wantSoonestOf(t, q)
	})
}
