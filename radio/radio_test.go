package radio_test

import (
	"fmt"
	"math"
	"math/big"
	"math/rand"
	"slices"
	"testing"

	"hotspot/api"
	"hotspot/radio"
)

// The definitions, as the chapter says them.

const (
	mostNodes   = 32
	mostCoord   = 10000
	mostPower   = 300
	mostChannel = 64
	mostShadow  = 600
	sense       = -820
)

func within(n, least, most int) bool { return least <= n && n <= most }

func validOf(w api.Air) bool {
	valid := within(len(w.Radios), 1, mostNodes)
	for _, r := range w.Radios {
		valid = valid && within(r.X, -mostCoord, mostCoord) && within(r.Y, -mostCoord, mostCoord)
		valid = valid && within(r.Power, 0, mostPower) && within(r.Channel, 1, mostChannel)
	}
	if len(w.Shadow) == 0 {
		return valid
	}
	valid = valid && len(w.Shadow) == len(w.Radios)
	for i, row := range w.Shadow {
		valid = valid && len(row) == len(w.Radios)
		for j, s := range row {
			valid = valid && within(s, 0, mostShadow) && (i != j || s == 0)
		}
	}
	return valid
}

func symmetricOf(w api.Air) bool {
	if !validOf(w) {
		return false
	}
	for i := range w.Shadow {
		for j := range w.Shadow {
			if w.Shadow[i][j] != w.Shadow[j][i] {
				return false
			}
		}
	}
	return true
}

func distanceOf(x1, y1, x2, y2 int) int {
	dx, dy := big.NewInt(int64(x1-x2)), big.NewInt(int64(y1-y2))
	sum := new(big.Int).Add(dx.Mul(dx, dx), dy.Mul(dy, dy))
	return int(sum.Sqrt(sum).Int64())
}

// lossOf counts the doublings.
func lossOf(d int) int {
	e := uint64(max(d, 1))
	loss := 400
	for power := uint64(2); power <= e*e*e*e; power *= 2 {
		loss += 15
	}
	return loss
}

func levelOf(w api.Air, i, j int) int {
	a, b := w.Radios[i], w.Radios[j]
	level := a.Power - lossOf(distanceOf(a.X, a.Y, b.X, b.Y))
	if len(w.Shadow) != 0 {
		level -= w.Shadow[i][j]
	}
	return level
}

func hearsOf(w api.Air, j, i int) bool {
	return i != j && w.Radios[i].Channel == w.Radios[j].Channel && levelOf(w, i, j) >= sense
}

func neighboursOf(w api.Air, j int) []int {
	var l []int
	for i := range w.Radios {
		if hearsOf(w, j, i) {
			l = append(l, i)
		}
	}
	return l
}

// errorOf returns the error of a call with a world and nodes.
func errorOf(w api.Air, nodes ...int) api.Errno {
	if !validOf(w) {
		return api.ErrBad
	}
	for _, n := range nodes {
		if !within(n, 0, len(w.Radios)-1) {
			return api.ErrArg
		}
	}
	return api.OK
}

func movedOf(w api.Air, i, x, y int) (api.Air, api.Errno) {
	if e := errorOf(w, i); e != api.OK {
		return api.Air{}, e
	}
	if !within(x, -mostCoord, mostCoord) || !within(y, -mostCoord, mostCoord) {
		return api.Air{}, api.ErrArg
	}
	w = copyOf(w)
	w.Radios[i].X, w.Radios[i].Y = x, y
	return w, api.OK
}

func tunedOf(w api.Air, i, channel int) (api.Air, api.Errno) {
	if e := errorOf(w, i); e != api.OK {
		return api.Air{}, e
	}
	if !within(channel, 1, mostChannel) {
		return api.Air{}, api.ErrArg
	}
	w = copyOf(w)
	w.Radios[i].Channel = channel
	return w, api.OK
}

func copyOf(w api.Air) api.Air {
	c := api.Air{Radios: slices.Clone(w.Radios)}
	for _, row := range w.Shadow {
		c.Shadow = append(c.Shadow, slices.Clone(row))
	}
	return c
}

func equal(v, w api.Air) bool {
	return slices.Equal(v.Radios, w.Radios) && slices.EqualFunc(v.Shadow, w.Shadow, slices.Equal)
}

// What the tests expect.

func wantNumber(t *testing.T, got int, e api.Errno, want int, wantE api.Errno, what ...any) {
	t.Helper()
	if got != want || e != wantE {
		t.Fatalf("%v: %d, %d; want %d, %d", what, got, int(e), want, int(wantE))
	}
}

func wantDistance(t *testing.T, x1, y1, x2, y2, want int, wantE api.Errno) {
	t.Helper()
	d, e := radio.Distance(x1, y1, x2, y2)
	wantNumber(t, d, e, want, wantE, "Distance of", x1, y1, x2, y2)
}

func wantLoss(t *testing.T, d, want int, wantE api.Errno) {
	t.Helper()
	l, e := radio.Loss(d)
	wantNumber(t, l, e, want, wantE, "Loss over", d)
}

func wantLevel(t *testing.T, w api.Air, i, j, want int, wantE api.Errno) {
	t.Helper()
	l, e := radio.Level(w, i, j)
	wantNumber(t, l, e, want, wantE, "Level of", i, "at", j, "in", w)
}

func wantHears(t *testing.T, w api.Air, j, i int, want bool, wantE api.Errno) {
	t.Helper()
	if is, e := radio.Hears(w, j, i); is != want || e != wantE {
		t.Fatalf("Hears of %d, %d in %v: %t, %d; want %t, %d", j, i, w, is, int(e), want, int(wantE))
	}
}

func wantNeighbours(t *testing.T, w api.Air, j int, want []int, wantE api.Errno) {
	t.Helper()
	if l, e := radio.Neighbours(w, j); !slices.Equal(l, want) || e != wantE {
		t.Fatalf("Neighbours of %d in %v: %v, %d; want %v, %d", j, w, l, int(e), want, int(wantE))
	}
}

func wantAir(t *testing.T, got api.Air, e api.Errno, want api.Air, wantE api.Errno, what ...any) {
	t.Helper()
	if !equal(got, want) || e != wantE {
		t.Fatalf("%v: %v, %d; want %v, %d", what, got, int(e), want, int(wantE))
	}
}

func wantMove(t *testing.T, w api.Air, i, x, y int) api.Errno {
	t.Helper()
	got, e := radio.Move(w, i, x, y)
	want, wantE := movedOf(w, i, x, y)
	wantAir(t, got, e, want, wantE, "Move of", i, "to", x, y, "in", w)
	return e
}

func wantTune(t *testing.T, w api.Air, i, channel int) api.Errno {
	t.Helper()
	got, e := radio.Tune(w, i, channel)
	want, wantE := tunedOf(w, i, channel)
	wantAir(t, got, e, want, wantE, "Tune of", i, "to", channel, "in", w)
	return e
}

func wantValid(t *testing.T, w api.Air, valid, symmetric bool, what ...any) {
	t.Helper()
	wantE := api.ErrBad
	if valid {
		wantE = api.OK
	}
	if e := radio.Check(w); e != wantE {
		t.Fatalf("Check of %v: %d; want %d", what, int(e), int(wantE))
	}
	if is := radio.Symmetric(w); is != symmetric {
		t.Fatalf("Symmetric of %v: %t", what, is)
	}
	if validOf(w) != valid || symmetricOf(w) != symmetric {
		t.Fatalf("the definitions of %v differ", what)
	}
}

// wantPair checks all that there is about two nodes.
func wantPair(t *testing.T, w api.Air, i, j int) api.Errno {
	t.Helper()
	e := errorOf(w, i, j)
	if e != api.OK {
		wantLevel(t, w, i, j, 0, e)
		wantHears(t, w, i, j, false, e)
		return e
	}
	wantLevel(t, w, i, j, levelOf(w, i, j), api.OK)
	wantHears(t, w, i, j, hearsOf(w, i, j), api.OK)
	return e
}

func wantNode(t *testing.T, w api.Air, j int) {
	t.Helper()
	if e := errorOf(w, j); e != api.OK {
		wantNeighbours(t, w, j, nil, e)
		return
	}
	wantNeighbours(t, w, j, neighboursOf(w, j), api.OK)
}

// wantSeen checks that a random test came across each of the errors at least so often.
func wantSeen(t *testing.T, seen map[api.Errno]int, least int, errors ...api.Errno) {
	t.Helper()
	for _, e := range errors {
		if seen[e] < least {
			t.Errorf("the error %d was seen %d times only", int(e), seen[e])
		}
	}
}

// Worlds.

// line is a world of nodes with power 200 on one channel, at these positions on a line.
func line(xs ...int) api.Air {
	var w api.Air
	for _, x := range xs {
		w.Radios = append(w.Radios, api.Radio{X: x, Power: 200, Channel: 1})
	}
	return w
}

// crowd is a world of n nodes, with a shadow that differs from pair to pair.
func crowd(n int) api.Air {
	var w api.Air
	for i := range n {
		w.Radios = append(w.Radios, api.Radio{X: 100 * i, Y: -30 * i, Power: 200 + i, Channel: 1 + i%3})
		w.Shadow = append(w.Shadow, make([]int, n))
		for j := range n {
			if i != j {
				w.Shadow[i][j] = 5*i + j + 1
			}
		}
	}
	return w
}

// with returns a changed copy of a world.
func with(w api.Air, change func(w *api.Air)) api.Air {
	w = copyOf(w)
	change(&w)
	return w
}

// random returns a valid world in which many nodes hear each other, and many do not.
func random(rng *rand.Rand, symmetric bool) api.Air {
	var w api.Air
	n := 1 + rng.Intn(mostNodes)
	if rng.Intn(3) > 0 {
		n = 1 + rng.Intn(6)
	}
	reach := []int{2, 100, 3000, mostCoord}[rng.Intn(4)]
	channels := []int{1, 2, mostChannel}[rng.Intn(3)]
	for range n {
		r := api.Radio{X: rng.Intn(2*reach+1) - reach, Y: rng.Intn(2*reach+1) - reach, Power: rng.Intn(mostPower + 1), Channel: 1 + rng.Intn(channels)}
		w.Radios = append(w.Radios, r)
	}
	if rng.Intn(3) > 0 {
		w.Shadow = randomShadow(rng, n, symmetric)
	}
	return w
}

func randomShadow(rng *rand.Rand, n int, symmetric bool) [][]int {
	rows := make([][]int, n)
	for i := range rows {
		rows[i] = make([]int, n)
		for j := range rows[i] {
			switch {
			case j < i && symmetric:
				rows[i][j] = rows[j][i]
			case j != i:
				rows[i][j] = rng.Intn(mostShadow + 1)
			}
		}
	}
	return rows
}

// damaged returns a copy of a world with a change that often makes it invalid.
func damaged(rng *rand.Rand, w api.Air) api.Air {
	w = copyOf(w)
	n := len(w.Radios)
	i, j := rng.Intn(n), rng.Intn(n)
	r := &w.Radios[i]
	change := rng.Intn(9)
	if change >= 4 && len(w.Shadow) == 0 {
		w.Shadow = randomShadow(rng, n, false)
	}
	switch change {
	case 0:
		r.X = edge(rng, -mostCoord, mostCoord)
	case 1:
		r.Y = edge(rng, -mostCoord, mostCoord)
	case 2:
		r.Power = edge(rng, 0, mostPower)
	case 3:
		r.Channel = edge(rng, 1, mostChannel)
	case 4:
		w.Shadow[i][j] = edge(rng, 0, mostShadow)
	case 5:
		w.Shadow[i] = append(w.Shadow[i], 0)
	case 6:
		w.Shadow[i] = w.Shadow[i][:rng.Intn(n+1)]
	case 7:
		w.Shadow = append(w.Shadow, make([]int, n))
	case 8:
		w.Shadow = w.Shadow[:rng.Intn(n+1)]
	}
	return w
}

// edge returns a number at an end of a range, inside or outside.
func edge(rng *rand.Rand, least, most int) int {
	return []int{least, least - 1, most, most + 1, math.MinInt, math.MaxInt}[rng.Intn(6)]
}

// extremes are numbers whose sums and products do not fit into a number.
var extremes = []int{
	math.MinInt, math.MinInt + 1, math.MinInt / 2, math.MinInt32, -1 << 16,
	1 << 16, math.MaxInt32, 1 << 32, 1<<32 + 1, 1 << 40, 1 << 62, math.MaxInt / 2, math.MaxInt - 1, math.MaxInt,
}

// P10.1

func TestCheck(t *testing.T) {
	w := crowd(3)
	for _, c := range []struct {
		what   string
		change func(w *api.Air)
		valid  bool
	}{
		{"a crowd", func(w *api.Air) {}, true},
		{"the least X", func(w *api.Air) { w.Radios[0].X = -10000 }, true},
		{"a lesser X", func(w *api.Air) { w.Radios[0].X = -10001 }, false},
		{"the greatest X", func(w *api.Air) { w.Radios[2].X = 10000 }, true},
		{"a greater X", func(w *api.Air) { w.Radios[2].X = 10001 }, false},
		{"the least Y", func(w *api.Air) { w.Radios[1].Y = -10000 }, true},
		{"a lesser Y", func(w *api.Air) { w.Radios[1].Y = -10001 }, false},
		{"the greatest Y", func(w *api.Air) { w.Radios[0].Y = 10000 }, true},
		{"a greater Y", func(w *api.Air) { w.Radios[0].Y = 10001 }, false},
		{"no power", func(w *api.Air) { w.Radios[2].Power = 0 }, true},
		{"less power", func(w *api.Air) { w.Radios[2].Power = -1 }, false},
		{"the greatest power", func(w *api.Air) { w.Radios[0].Power = 300 }, true},
		{"more power", func(w *api.Air) { w.Radios[0].Power = 301 }, false},
		{"channel 1", func(w *api.Air) { w.Radios[0].Channel = 1 }, true},
		{"channel 0", func(w *api.Air) { w.Radios[0].Channel = 0 }, false},
		{"channel 64", func(w *api.Air) { w.Radios[2].Channel = 64 }, true},
		{"channel 65", func(w *api.Air) { w.Radios[2].Channel = 65 }, false},
		{"the least shadow", func(w *api.Air) { w.Shadow[0][2] = 0 }, true},
		{"a negative shadow", func(w *api.Air) { w.Shadow[0][2] = -1 }, false},
		{"the greatest shadow", func(w *api.Air) { w.Shadow[2][0] = 600 }, true},
		{"a greater shadow", func(w *api.Air) { w.Shadow[2][1] = 601 }, false},
		{"a shadow on the diagonal", func(w *api.Air) { w.Shadow[1][1] = 1 }, false},
		{"a shadow on the diagonal's end", func(w *api.Air) { w.Shadow[2][2] = 600 }, false},
		{"a negative shadow on the diagonal", func(w *api.Air) { w.Shadow[0][0] = -1 }, false},
		{"no shadow", func(w *api.Air) { w.Shadow = nil }, true},
		{"no row", func(w *api.Air) { w.Shadow = w.Shadow[:0] }, true},
		{"one row", func(w *api.Air) { w.Shadow = w.Shadow[:1] }, false},
		{"a row too few", func(w *api.Air) { w.Shadow = w.Shadow[:2] }, false},
		{"a row too many", func(w *api.Air) { w.Shadow = append(w.Shadow, make([]int, 3)) }, false},
		{"an empty row too many", func(w *api.Air) { w.Shadow = append(w.Shadow, nil) }, false},
		{"a radio too few", func(w *api.Air) { w.Radios = w.Radios[:2] }, false},
		{"a radio too many", func(w *api.Air) { w.Radios = append(w.Radios, w.Radios[0]) }, false},
		{"a short row", func(w *api.Air) { w.Shadow[0] = w.Shadow[0][:2] }, false},
		{"a short last row", func(w *api.Air) { w.Shadow[2] = w.Shadow[2][:2] }, false},
		{"a long row", func(w *api.Air) { w.Shadow[1] = append(w.Shadow[1], 0) }, false},
		{"an empty row", func(w *api.Air) { w.Shadow[1] = nil }, false},
		{"empty rows", func(w *api.Air) { w.Shadow = make([][]int, 3) }, false},
		{"a row at the end of another one", func(w *api.Air) { w.Shadow[0], w.Shadow[1] = w.Shadow[0][:2], append(w.Shadow[1], 0) }, false},
		{"no radio", func(w *api.Air) { w.Radios = nil }, false},
		{"nothing", func(w *api.Air) { *w = api.Air{} }, false},
		{"one empty row and no radio", func(w *api.Air) { *w = api.Air{Shadow: [][]int{{}}} }, false},
		{"two radios at one position", func(w *api.Air) { w.Radios[1] = w.Radios[0] }, true},
		{"a zero radio", func(w *api.Air) { w.Radios[1] = api.Radio{} }, false},
	} {
		v := with(w, c.change)
		wantValid(t, v, c.valid, c.valid && len(v.Shadow) == 0, c.what)
	}
}

func TestCheckOfNumbersOfRadios(t *testing.T) {
	for n := range 70 {
		w := crowd(n)
		wantValid(t, w, n >= 1 && n <= 32, n == 1, n, "radios")
		w.Shadow = nil
		wantValid(t, w, n >= 1 && n <= 32, n >= 1 && n <= 32, n, "radios without shadow")
	}
}

// Each number of each radio, and each shadow, is looked at.
func TestCheckOfEachNumber(t *testing.T) {
	for _, n := range []int{1, 2, 5, 32} {
		w := crowd(n)
		for i := range n {
			for _, bad := range append([]int{-10001, 10001}, extremes...) {
				wantValid(t, with(w, func(w *api.Air) { w.Radios[i].X = bad }), false, false, "a bad X")
				wantValid(t, with(w, func(w *api.Air) { w.Radios[i].Y = bad }), false, false, "a bad Y")
				wantValid(t, with(w, func(w *api.Air) { w.Radios[i].Power = bad }), false, false, "a bad power")
				wantValid(t, with(w, func(w *api.Air) { w.Radios[i].Channel = bad }), false, false, "a bad channel")
			}
			for j := range n {
				for _, bad := range []int{-1, 601, math.MinInt, math.MaxInt} {
					wantValid(t, with(w, func(w *api.Air) { w.Shadow[i][j] = bad }), false, false, "a bad shadow")
				}
			}
		}
	}
}

func TestSymmetric(t *testing.T) {
	rng := rand.New(rand.NewSource(1))
	for _, n := range []int{1, 2, 3, 7, 32} {
		w := crowd(n)
		w.Shadow = make([][]int, n)
		for i := range w.Shadow {
			w.Shadow[i] = make([]int, n)
		}
		wantValid(t, w, true, true, "zeros")
		w.Shadow = randomShadow(rng, n, true)
		wantValid(t, w, true, true, "a symmetric world")
		for i := range n {
			for j := range n {
				v := with(w, func(w *api.Air) { w.Shadow[i][j] = (w.Shadow[i][j] + 1) % (mostShadow + 1) })
				wantValid(t, v, i != j, false, "a difference at", i, j)
				v.Shadow[j][i] = v.Shadow[i][j]
				wantValid(t, v, i != j, i != j, "an equal difference at", i, j)
				v.Radios[i].Power = mostPower + 1
				wantValid(t, v, false, false, "too much power of", i)
			}
		}
	}
}

// P10.2

func TestDistance(t *testing.T) {
	for _, c := range []struct{ x1, y1, x2, y2, want int }{
		{0, 0, 0, 0, 0}, {0, 0, 3, 4, 5}, {0, 0, 1, 1, 1}, {0, 0, 1, 0, 1}, {0, 0, 0, -1, 1}, {0, 0, 1, 2, 2}, {0, 0, 2, 2, 2}, {0, 0, 2, 3, 3},
		{-3, -4, 0, 0, 5}, {7, 9, 4, 5, 5}, {-1, 3, 2, -1, 5}, {5, 5, 5, 5, 0}, {-10000, 10000, -10000, 10000, 0},
		{0, 0, 10000, 0, 10000}, {-10000, 0, 10000, 0, 20000}, {0, 10000, 0, -10000, 20000}, {-10000, 1, 10000, 0, 20000},
		{0, 0, 10000, 10000, 14142}, {-10000, -10000, 10000, 10000, 28284}, {10000, -10000, -10000, 10000, 28284},
		{-9999, -10000, 10000, 10000, 28283}, {0, 0, 8, 15, 17}, {0, 0, 8, 14, 16}, {0, 0, 7, 15, 16}, {0, 0, 20, 21, 29},
	} {
		wantDistance(t, c.x1, c.y1, c.x2, c.y2, c.want, api.OK)
	}
}

func TestDistanceOfSmallNumbers(t *testing.T) {
	for x := -300; x <= 300; x++ {
		for y := -300; y <= 300; y++ {
			wantDistance(t, 0, 0, x, y, distanceOf(0, 0, x, y), api.OK)
		}
	}
}

// Squares of distances that are squares, and those next to them.
func TestDistanceAroundSquares(t *testing.T) {
	for m := 2; m <= 100; m++ {
		for n := 1; n < m; n++ {
			a, b, c := m*m-n*n, m*n, m*m+n*n // a and twice b are the legs
			wantDistance(t, a, b, 0, -b, c, api.OK)
			wantDistance(t, 1, b, a, -b, c-1, api.OK)
			wantDistance(t, a, -b, 0, b-1, c-1, api.OK)
		}
	}
}

func TestDistanceOfManyNumbers(t *testing.T) {
	rng := rand.New(rand.NewSource(2))
	coord := func() int { return rng.Intn(2*mostCoord+1) - mostCoord }
	for range 200000 {
		x1, y1, x2, y2 := coord(), coord(), coord(), coord()
		wantDistance(t, x1, y1, x2, y2, distanceOf(x1, y1, x2, y2), api.OK)
		wantDistance(t, x2, y2, x1, y1, distanceOf(x1, y1, x2, y2), api.OK)
	}
}

func TestDistanceOfOtherArguments(t *testing.T) {
	for _, bad := range append([]int{-10001, 10001, -20000, 20000}, extremes...) {
		for _, good := range []int{-10000, 0, 10000} {
			wantDistance(t, bad, good, good, good, 0, api.ErrArg)
			wantDistance(t, good, bad, good, good, 0, api.ErrArg)
			wantDistance(t, good, good, bad, good, 0, api.ErrArg)
			wantDistance(t, good, good, good, bad, 0, api.ErrArg)
		}
		wantDistance(t, bad, bad, bad, bad, 0, api.ErrArg)
	}
}

func TestLoss(t *testing.T) {
	for _, c := range []struct{ d, want int }{
		{0, 400}, {1, 400}, {2, 460}, {3, 490}, {4, 520}, {5, 535}, {6, 550}, {7, 565}, {8, 580}, {9, 580}, {10, 595},
		{16, 640}, {100, 790}, {1000, 985}, {1024, 1000}, {1023, 985}, {1217, 1000}, {1218, 1015}, {1448, 1015}, {1449, 1030},
		{10000, 1195}, {16383, 1225}, {16384, 1240}, {20000, 1255}, {28284, 1285}, {29999, 1285}, {30000, 1285},
	} {
		wantLoss(t, c.d, c.want, api.OK)
	}
	for d := range 30001 {
		wantLoss(t, d, lossOf(d), api.OK)
	}
	for _, d := range append([]int{-30000, -2, -1, 30001, 30002, 60000}, extremes...) {
		wantLoss(t, d, 0, api.ErrArg)
	}
}

// The loss grows by 6 decibels with each doubling.
func TestLossOfDoubles(t *testing.T) {
	for d := 1; d <= 15000; d++ {
		one, _ := radio.Loss(d)
		wantLoss(t, 2*d, one+60, api.OK)
	}
}

// P10.3

func TestLevel(t *testing.T) {
	w := line(0, 1, 3, 100, 10000, -10000)
	w.Radios[2].Power = 0
	w.Radios[4].Power = 300
	w.Radios[4].Channel = 64
	for _, c := range []struct{ i, j, want int }{
		{0, 0, -200}, {0, 1, -200}, {0, 2, -290}, {2, 0, -490}, {2, 2, -400}, {0, 3, -590}, {3, 0, -590},
		{0, 4, -995}, {4, 0, -895}, {5, 4, -1055}, {4, 5, -955}, {4, 4, -100},
	} {
		wantLevel(t, w, c.i, c.j, c.want, api.OK)
		wantLevel(t, w, c.i, c.j, levelOf(w, c.i, c.j), api.OK)
	}
}

// Shadow[i][j] counts from i to j, not back.
func TestLevelWithShadow(t *testing.T) {
	w := line(0, 1, 100)
	w.Shadow = [][]int{{0, 1, 2}, {30, 0, 40}, {500, 600, 0}}
	for _, c := range []struct{ i, j, want int }{
		{0, 0, -200}, {0, 1, -201}, {0, 2, -592}, {1, 0, -230}, {1, 1, -200}, {1, 2, -630}, {2, 0, -1090}, {2, 1, -1190}, {2, 2, -200},
	} {
		wantLevel(t, w, c.i, c.j, c.want, api.OK)
	}
}

func TestHears(t *testing.T) {
	for _, c := range []struct {
		power, distance, shadow int
		want                    bool
	}{
		{200, 100, 0, true}, {200, 0, 0, true}, {200, 1448, 0, true}, {200, 1449, 0, false},
		{195, 1448, 0, true}, {194, 1448, 0, false}, {195, 1218, 0, true}, {195, 1217, 0, true}, {194, 1217, 0, true},
		{200, 1448, 5, true}, {200, 1448, 6, false}, {200, 100, 230, true}, {200, 100, 231, false},
		{0, 1, 420, true}, {0, 1, 421, false}, {0, 0, 420, true}, {0, 100, 30, true}, {0, 100, 31, false}, {300, 10000, 0, false},
		{300, 1448, 105, true}, {300, 1448, 106, false}, {180, 1, 600, true}, {179, 1, 600, false},
	} {
		w := line(0, c.distance)
		w.Radios[1].Power = c.power
		w.Shadow = [][]int{{0, 0}, {c.shadow, 0}}
		wantHears(t, w, 0, 1, c.want, api.OK)
		wantHears(t, w, 0, 0, false, api.OK)
		wantHears(t, w, 1, 1, false, api.OK)
		w.Radios[0].Channel = 2
		wantHears(t, w, 0, 1, false, api.OK)
		w.Radios[1].Channel = 2
		wantHears(t, w, 0, 1, c.want, api.OK)
	}
}

// The first number is that of the node that hears.
func TestHearsOneWay(t *testing.T) {
	w := line(0, 1448)
	w.Radios[0].Power = 194
	wantHears(t, w, 0, 1, true, api.OK)
	wantHears(t, w, 1, 0, false, api.OK)
	w = line(0, 100)
	w.Shadow = [][]int{{0, 231}, {230, 0}}
	wantHears(t, w, 0, 1, true, api.OK)
	wantHears(t, w, 1, 0, false, api.OK)
}

func TestNeighbours(t *testing.T) {
	w := line(0, 1000, 2000, 3000, 1500, 1000)
	w.Radios[4].Channel = 2
	for j, want := range [][]int{{1, 5}, {0, 2, 5}, {1, 3, 5}, {2}, nil, {0, 1, 2}} {
		wantNeighbours(t, w, j, want, api.OK)
	}
	w.Radios[2].Channel = 2
	for j, want := range [][]int{{1, 5}, {0, 5}, {4}, nil, {2}, {0, 1}} {
		wantNeighbours(t, w, j, want, api.OK)
	}
	wantNeighbours(t, line(7), 0, nil, api.OK)
	wantNeighbours(t, line(7, 7), 1, []int{0}, api.OK)
}

// Of two nodes that are heard, all are listed, up to the last one of the largest world.
func TestNeighboursOfLargestWorld(t *testing.T) {
	w := line(make([]int, 32)...)
	for j := range 32 {
		var want []int
		for i := range 32 {
			if i != j {
				want = append(want, i)
			}
		}
		wantNeighbours(t, w, j, want, api.OK)
	}
}

func TestNodesThatAreNone(t *testing.T) {
	for _, n := range []int{1, 3, 32} {
		for _, w := range []api.Air{crowd(n), with(crowd(n), func(w *api.Air) { w.Shadow = nil })} {
			for _, bad := range append([]int{-1, -2, -n, n, n + 1, 2 * n, 33}, extremes...) {
				if bad < n && bad >= 0 {
					continue
				}
				for _, other := range []int{0, n - 1, bad} {
					wantLevel(t, w, bad, other, 0, api.ErrArg)
					wantLevel(t, w, other, bad, 0, api.ErrArg)
					wantHears(t, w, bad, other, false, api.ErrArg)
					wantHears(t, w, other, bad, false, api.ErrArg)
				}
				wantNeighbours(t, w, bad, nil, api.ErrArg)
			}
		}
	}
}

// invalid are worlds that are not valid, all with a node 0 or none.
func invalid() []api.Air {
	w := crowd(3)
	return []api.Air{
		{}, crowd(33), {Shadow: [][]int{{0}}},
		with(w, func(w *api.Air) { w.Radios[2].X = 10001 }),
		with(w, func(w *api.Air) { w.Radios[2].Y = math.MinInt }),
		with(w, func(w *api.Air) { w.Radios[2].Power = 301 }),
		with(w, func(w *api.Air) { w.Radios[2].Channel = 0 }),
		with(w, func(w *api.Air) { w.Shadow[2][0] = 601 }),
		with(w, func(w *api.Air) { w.Shadow[2][2] = 1 }),
		with(w, func(w *api.Air) { w.Shadow = w.Shadow[:2] }),
		with(w, func(w *api.Air) { w.Shadow[0] = nil }),
	}
}

// The error of the world is named first, whether or not the numbers are right.
func TestInvalidWorlds(t *testing.T) {
	for _, w := range invalid() {
		for _, i := range []int{0, 1, 2, -1, 3, 32, 33, math.MinInt, math.MaxInt} {
			for _, j := range []int{0, 2, -1, 33, math.MaxInt} {
				wantLevel(t, w, i, j, 0, api.ErrBad)
				wantHears(t, w, i, j, false, api.ErrBad)
			}
			wantNeighbours(t, w, i, nil, api.ErrBad)
			for _, n := range []int{-10001, -1, 0, 5, 65, 10001, math.MinInt, math.MaxInt} {
				if e := wantMove(t, w, i, n, 7); e != api.ErrBad {
					t.Fatalf("Move: %d", int(e))
				}
				if e := wantTune(t, w, i, n); e != api.ErrBad {
					t.Fatalf("Tune: %d", int(e))
				}
			}
		}
	}
}

// A radio that is not valid is not made valid by moving or tuning it.
func TestInvalidNodeIsNotHealed(t *testing.T) {
	w := line(0, 10001)
	if _, e := radio.Move(w, 1, 5, 0); e != api.ErrBad {
		t.Errorf("Move: %d", int(e))
	}
	w = line(0, 5)
	w.Radios[0].Channel = 65
	if _, e := radio.Tune(w, 0, 5); e != api.ErrBad {
		t.Errorf("Tune: %d", int(e))
	}
}

// P10.4

func TestMove(t *testing.T) {
	w := crowd(3)
	v, e := radio.Move(w, 1, -10000, 10000)
	wantAir(t, v, e, api.Air{
		Radios: []api.Radio{{X: 0, Y: 0, Power: 200, Channel: 1}, {X: -10000, Y: 10000, Power: 201, Channel: 2}, {X: 200, Y: -60, Power: 202, Channel: 3}},
		Shadow: [][]int{{0, 2, 3}, {6, 0, 8}, {11, 12, 0}},
	}, api.OK, "Move")
	for _, n := range []int{1, 2, 3, 32} {
		w := crowd(n)
		for i := -2; i < n+2; i++ {
			for _, x := range []int{-10001, -10000, -1, 0, 1, 10000, 10001} {
				for _, y := range []int{-10001, -10000, 0, 7, 10000, 10001} {
					wantMove(t, w, i, x, y)
				}
			}
		}
		for _, bad := range extremes {
			for _, c := range [][3]int{{bad, 0, 0}, {0, bad, 0}, {0, 0, bad}, {bad, bad, bad}} {
				if e := wantMove(t, w, c[0], c[1], c[2]); e != api.ErrArg {
					t.Fatalf("Move: %d", int(e))
				}
			}
		}
	}
}

func TestTune(t *testing.T) {
	w := crowd(2)
	v, e := radio.Tune(w, 0, 64)
	wantAir(t, v, e, api.Air{
		Radios: []api.Radio{{X: 0, Y: 0, Power: 200, Channel: 64}, {X: 100, Y: -30, Power: 201, Channel: 2}},
		Shadow: [][]int{{0, 2}, {6, 0}},
	}, api.OK, "Tune")
	for _, n := range []int{1, 2, 3, 32} {
		w := crowd(n)
		for i := -2; i < n+2; i++ {
			for channel := -3; channel < 70; channel++ {
				wantTune(t, w, i, channel)
			}
		}
		for _, bad := range extremes {
			for _, c := range [][2]int{{bad, 1}, {0, bad}, {bad, bad}} {
				if e := wantTune(t, w, c[0], c[1]); e != api.ErrArg {
					t.Fatalf("Tune: %d", int(e))
				}
			}
		}
	}
}

// To move a node to its place, and to tune it to its channel, changes nothing.
func TestSamePlaceAndChannel(t *testing.T) {
	w := crowd(4)
	for i, r := range w.Radios {
		v, e := radio.Move(w, i, r.X, r.Y)
		wantAir(t, v, e, w, api.OK, "Move")
		v, e = radio.Tune(w, i, r.Channel)
		wantAir(t, v, e, w, api.OK, "Tune")
	}
}

// P10.1 to P10.4 in random worlds, valid and not.

func TestRandomWorlds(t *testing.T) {
	rng := rand.New(rand.NewSource(3))
	seen := map[api.Errno]int{}
	for range 20000 {
		w := random(rng, rng.Intn(2) == 0)
		if rng.Intn(4) == 0 {
			w = damaged(rng, w)
		}
		wantValid(t, w, validOf(w), symmetricOf(w), w)
		node := func() int { return rng.Intn(len(w.Radios)+2) - rng.Intn(2) }
		i, j := node(), node()
		wantNode(t, w, j)
		seen[wantPair(t, w, i, j)]++
		seen[wantMove(t, w, i, rng.Intn(22001)-11000, rng.Intn(22001)-11000)]++
		seen[wantTune(t, w, i, rng.Intn(70)-2)]++
	}
	wantSeen(t, seen, 1000, api.OK, api.ErrBad, api.ErrArg)
}

// P10.5

// sameLevels checks what a symmetric world promises of a pair with the same power.
func sameLevels(t *testing.T, w api.Air, i, j int) {
	t.Helper()
	there, e := radio.Level(w, i, j)
	back, f := radio.Level(w, j, i)
	if there != back || e != api.OK || f != api.OK {
		t.Fatalf("levels of %d and %d in %v: %d, %d; %d, %d", i, j, w, there, back, int(e), int(f))
	}
	hears, _ := radio.Hears(w, i, j)
	heard, _ := radio.Hears(w, j, i)
	if hears != heard {
		t.Fatalf("%d and %d in %v: %t, %t", i, j, w, hears, heard)
	}
}

func TestSymmetricWorlds(t *testing.T) {
	rng := rand.New(rand.NewSource(4))
	hearing, deaf := 0, 0
	for range 3000 {
		w := random(rng, true)
		if !radio.Symmetric(w) {
			t.Fatalf("not symmetric: %v", w)
		}
		for i := range w.Radios {
			w.Radios[i].Power = []int{0, 150, 300}[rng.Intn(3)]
		}
		for i := range w.Radios {
			for j := range i {
				if w.Radios[i].Power == w.Radios[j].Power {
					sameLevels(t, w, i, j)
					if hearsOf(w, i, j) {
						hearing++
					} else {
						deaf++
					}
				}
			}
		}
	}
	if hearing < 1000 || deaf < 1000 {
		t.Errorf("%d pairs hear each other, %d do not", hearing, deaf)
	}
}

// Without shadowing, the level does not grow with the distance.
func TestLevelFallsWithDistance(t *testing.T) {
	before := math.MaxInt
	for x := range 20001 {
		w := line(-mostCoord, x-mostCoord)
		l, e := radio.Level(w, 0, 1)
		if e != api.OK || l > before {
			t.Fatalf("at %d: %d after %d, %d", x, l, before, int(e))
		}
		before = l
	}
	rng := rand.New(rand.NewSource(5))
	for range 2000 {
		w := random(rng, true)
		w.Shadow = nil
		for i := range w.Radios {
			w.Radios[i].Power = 250
		}
		to := w.Radios[0]
		for i, one := range w.Radios {
			for j, two := range w.Radios {
				oneFar, _ := radio.Distance(one.X, one.Y, to.X, to.Y)
				twoFar, _ := radio.Distance(two.X, two.Y, to.X, to.Y)
				oneLevel, _ := radio.Level(w, i, 0)
				twoLevel, _ := radio.Level(w, j, 0)
				if oneFar <= twoFar && oneLevel < twoLevel {
					t.Fatalf("in %v, %d is weaker than %d, but not farther away from 0", w, i, j)
				}
			}
		}
	}
}

func TestNoNodeHearsItself(t *testing.T) {
	rng := rand.New(rand.NewSource(6))
	for range 1000 {
		w := random(rng, false)
		for i := range w.Radios {
			wantHears(t, w, i, i, false, api.OK)
			if l, _ := radio.Neighbours(w, i); slices.Contains(l, i) {
				t.Fatalf("in %v, %d is a neighbour of itself", w, i)
			}
		}
	}
}

// Neighbours are just the nodes that are heard, in increasing order.
func TestNeighboursAndHearsFit(t *testing.T) {
	rng := rand.New(rand.NewSource(7))
	for range 1000 {
		w := random(rng, false)
		for j := range w.Radios {
			l, _ := radio.Neighbours(w, j)
			if !slices.IsSorted(l) || len(slices.Compact(slices.Clone(l))) != len(l) {
				t.Fatalf("neighbours of %d in %v: %v", j, w, l)
			}
			for i := range w.Radios {
				if is, _ := radio.Hears(w, j, i); is != slices.Contains(l, i) {
					t.Fatalf("neighbours of %d in %v: %v, but %d: %t", j, w, l, i, is)
				}
			}
		}
	}
}

func without(l []int, k int) []int {
	return slices.DeleteFunc(slices.Clone(l), func(n int) bool { return n == k })
}

// wantOthersSame checks that two worlds, which differ in one node, are the same for all others.
func wantOthersSame(t *testing.T, v, w api.Air, k int) {
	t.Helper()
	for i := range w.Radios {
		if i == k {
			continue
		}
		one, _ := radio.Neighbours(v, i)
		two, _ := radio.Neighbours(w, i)
		if !slices.Equal(without(one, k), without(two, k)) {
			t.Fatalf("neighbours of %d in %v and, with another %d, in %v: %v, %v", i, v, k, w, one, two)
		}
		for j := range w.Radios {
			if j == k {
				continue
			}
			level, e := radio.Level(v, i, j)
			wantLevel(t, w, i, j, level, e)
			hears, e := radio.Hears(v, i, j)
			wantHears(t, w, i, j, hears, e)
		}
	}
}

func TestMovingAndTuningChangesOneNode(t *testing.T) {
	rng := rand.New(rand.NewSource(8))
	for range 1500 {
		w := random(rng, false)
		k := rng.Intn(len(w.Radios))
		v, e := radio.Move(w, k, rng.Intn(2001)-1000, rng.Intn(2001)-1000)
		if e != api.OK {
			t.Fatal(int(e))
		}
		wantOthersSame(t, v, w, k)
		v, e = radio.Tune(w, k, 1+rng.Intn(3))
		if e != api.OK {
			t.Fatal(int(e))
		}
		wantOthersSame(t, v, w, k)
		for i := range w.Radios {
			for j := range w.Radios { // another channel does not change levels
				level, e := radio.Level(w, i, j)
				wantLevel(t, v, i, j, level, e)
			}
		}
	}
}

// A node that is moved there and back, and tuned there and back, is as it was.
func TestThereAndBack(t *testing.T) {
	rng := rand.New(rand.NewSource(9))
	for range 2000 {
		w := random(rng, false)
		k := rng.Intn(len(w.Radios))
		r := w.Radios[k]
		v, _ := radio.Move(w, k, -r.Y, r.X)
		v, _ = radio.Tune(v, k, 65-r.Channel)
		v, _ = radio.Move(v, k, r.X, r.Y)
		v, e := radio.Tune(v, k, r.Channel)
		wantAir(t, v, e, w, api.OK, "there and back")
	}
}

// The examples.

func TestExample(t *testing.T) {
	wantDistance(t, 0, 0, 3, 4, 5, api.OK)
	wantDistance(t, 0, 0, 1, 1, 1, api.OK)
	wantLoss(t, 0, 400, api.OK)
	wantLoss(t, 1, 400, api.OK)
	wantLoss(t, 2, 460, api.OK)
	wantLoss(t, 3, 490, api.OK)
	wantLoss(t, 100, 790, api.OK)
	w := line(0, 100)
	wantLevel(t, w, 0, 1, -590, api.OK)
	wantHears(t, w, 1, 0, true, api.OK)
}

// R2

// guarded returns a copy of a world with further memory behind all lengths.
func guarded(w api.Air) api.Air {
	n := len(w.Radios)
	g := api.Air{Radios: append(slices.Clone(w.Radios), api.Radio{X: 77}, api.Radio{Power: 78})[:n]}
	for _, row := range w.Shadow {
		g.Shadow = append(g.Shadow, append(slices.Clone(row), 79, 80, 81)[:len(row)])
	}
	g.Shadow = append(g.Shadow, []int{82}, []int{83})[:len(w.Shadow)]
	return g
}

// everything returns all that is in a world, the memory behind the lengths included.
func everything(w api.Air) string {
	s := fmt.Sprint(w.Radios[:cap(w.Radios)])
	for _, row := range w.Shadow[:cap(w.Shadow)] {
		s += fmt.Sprint(row[:cap(row)])
	}
	return s
}

// spoil changes all memory of a world.
func spoil(w api.Air) {
	for i := range w.Radios[:cap(w.Radios)] {
		w.Radios[:cap(w.Radios)][i] = api.Radio{X: 91, Y: 92, Power: 93, Channel: 94}
	}
	rows := w.Shadow[:cap(w.Shadow)]
	for i := range rows {
		spoilRow(rows[i])
		rows[i] = []int{95}
	}
}

func spoilRow(row []int) {
	row = row[:cap(row)]
	for i := range row {
		row[i] = 96
	}
}

func TestArgumentsOfChanges(t *testing.T) {
	for _, n := range []int{1, 2, 3, 7, 8, 32} {
		for _, w := range []api.Air{crowd(n), {Radios: crowd(n).Radios}, {Radios: crowd(n).Radios, Shadow: crowd(n).Shadow[:0]}} {
			g := guarded(w)
			before := everything(g)
			for name, change := range map[string]func(i int) (api.Air, api.Errno){
				"Move":             func(i int) (api.Air, api.Errno) { return radio.Move(g, i, 5, 6) },
				"Move too far":     func(i int) (api.Air, api.Errno) { return radio.Move(g, i, 5, 10001) },
				"Move of no node":  func(i int) (api.Air, api.Errno) { return radio.Move(g, n+i, 5, 6) },
				"Tune":             func(i int) (api.Air, api.Errno) { return radio.Tune(g, i, 7) },
				"Tune to no value": func(i int) (api.Air, api.Errno) { return radio.Tune(g, i, 65) },
			} {
				for i := range n {
					v, _ := change(i)
					want := copyOf(v)
					again, _ := change(i)
					if everything(g) != before {
						t.Fatalf("%s: the argument was changed", name)
					}
					for k := range v.Shadow {
						spoilRow(v.Shadow[k])
						for l, row := range v.Shadow[k+1:] {
							if !slices.Equal(row, want.Shadow[k+1+l]) {
								t.Fatalf("%s: rows share memory", name)
							}
						}
					}
					spoil(v)
					if everything(g) != before {
						t.Fatalf("%s: the result shares memory with the argument", name)
					}
					if !equal(again, want) {
						t.Fatalf("%s: two results share memory", name)
					}
				}
			}
			v, _ := radio.Move(g, 0, 5, 6)
			want, _ := movedOf(w, 0, 5, 6)
			spoil(g)
			if !equal(v, want) {
				t.Fatalf("the result of Move shares memory with the spoilt argument")
			}
		}
	}
}

func TestArgumentsOfQuestions(t *testing.T) {
	for _, n := range []int{1, 2, 7, 32} {
		g := guarded(crowd(n))
		before := everything(g)
		radio.Check(g)
		radio.Symmetric(g)
		for i := range n + 1 {
			for j := range n + 1 {
				radio.Level(g, i, j)
				radio.Hears(g, i, j)
			}
			radio.Neighbours(g, i)
		}
		if everything(g) != before {
			t.Fatalf("%d nodes: the argument was changed", n)
		}
	}
}

func TestNeighboursShareNothing(t *testing.T) {
	w := line(0, 0, 0, 0, 0)
	l, _ := radio.Neighbours(w, 2)
	spoilRow(l)
	wantNeighbours(t, w, 2, []int{0, 1, 3, 4}, api.OK)
}

// R3

func TestNilAndEmptyAreEqual(t *testing.T) {
	some := line(0, 100)
	some.Shadow = [][]int{}
	wantValid(t, some, true, true, "an empty shadow")
	wantLevel(t, some, 0, 1, -590, api.OK)
	wantHears(t, some, 0, 1, true, api.OK)
	wantNeighbours(t, some, 0, []int{1}, api.OK)
	wantMove(t, some, 0, 5, 5)
	wantTune(t, some, 1, 5)
	wantValid(t, api.Air{Radios: []api.Radio{}, Shadow: [][]int{}}, false, false, "no radios")
	one := line(0)
	one.Shadow = [][]int{{}}
	wantValid(t, one, false, false, "an empty row")
}

// R7

func TestAllCallsEnd(t *testing.T) {
	numbers := append([]int{-1, 0, 1, 2, 31, 32, 64, 10000}, extremes...)
	worlds := append(invalid(), crowd(1), crowd(32), line(0, 100))
	for _, n := range numbers {
		worlds = append(worlds, api.Air{Radios: []api.Radio{{X: n, Y: n, Power: n, Channel: n}}, Shadow: [][]int{{n}}})
	}
	for _, w := range worlds {
		radio.Check(w)
		radio.Symmetric(w)
		for _, i := range numbers {
			radio.Neighbours(w, i)
			for _, j := range numbers {
				radio.Level(w, i, j)
				radio.Hears(w, i, j)
				radio.Tune(w, i, j)
				radio.Move(w, i, j, i)
			}
		}
	}
	for _, i := range numbers {
		radio.Loss(i)
		for _, j := range numbers {
			radio.Distance(i, j, j, i)
			radio.Distance(i, i, j, j)
		}
	}
}

// worldOf reads a world from bytes: the number of radios, whether there is a shadow, and then all numbers, 0 where the bytes end. If the second byte is 3, a row of the shadow is replaced by one of any length.
func worldOf(b []byte) api.Air {
	next := func() int {
		if len(b) == 0 {
			return 0
		}
		n := int(b[0])
		b = b[1:]
		return n
	}
	n, shadow := next()%35, next()
	var w api.Air
	for range n {
		w.Radios = append(w.Radios, api.Radio{X: (next() - 128) * 79, Y: (next() - 128) * 79, Power: next() * 302 / 255, Channel: next() % 66})
	}
	for i := range n {
		if shadow%2 == 0 {
			break
		}
		row := make([]int, n)
		for j := range n {
			if j != i {
				row[j] = next() * 602 / 255
			}
		}
		w.Shadow = append(w.Shadow, row)
	}
	if shadow == 3 && n > 0 {
		w.Shadow[next()%n] = make([]int, next()%35)
	}
	return w
}

func FuzzWorld(f *testing.F) {
	f.Add([]byte{}, 0, 0)
	f.Add([]byte{1, 0, 128, 128, 200, 1}, 0, 5)
	f.Add([]byte{2, 0, 128, 128, 200, 1, 130, 128, 200, 1}, 1, 64)
	f.Add([]byte{2, 1, 128, 128, 200, 1, 130, 128, 200, 1, 50, 60}, 0, -5)
	f.Add([]byte{2, 3, 128, 128, 200, 1, 130, 128, 200, 1, 50, 60, 1, 2}, 1, 10001)
	f.Add([]byte{3, 5, 1, 1, 1, 1, 2, 2, 2, 2, 3, 3, 3, 1}, 2, -10000)
	f.Fuzz(func(t *testing.T, b []byte, i, n int) {
		w := worldOf(b)
		wantValid(t, w, validOf(w), symmetricOf(w), w)
		for j := -1; j <= len(w.Radios); j++ {
			wantNode(t, w, j)
			wantPair(t, w, i, j)
			wantPair(t, w, j, i)
		}
		wantMove(t, w, i, n, i)
		wantMove(t, w, i, i, n)
		wantTune(t, w, i, n)
		if within(n, 0, 30000) {
			wantLoss(t, n, lossOf(n), api.OK)
		} else {
			wantLoss(t, n, 0, api.ErrArg)
		}
	})
}
