package rate_test

import (
	"math"
	"math/rand"
	"slices"
	"sync"
	"testing"

	"hotspot/api"
	"hotspot/rate"
)

// The definitions, as the chapter says them.

var (
	bits  = []int{24, 36, 48, 72, 100, 148, 196, 220, 264, 316, 396, 476}
	needs = []int{-820, -808, -788, -768, -738, -702, -664, -652, -640, -590, -568, -538}
	basic = []int{0, 2, 4}
)

const (
	mostBytes = 65535
	sifs      = 16
)

func rateOf(i int) api.Rate {
	return api.Rate{Bits: bits[i], Need: needs[i], Basic: slices.Contains(basic, i)}
}

// airtimes returns the airtimes of all numbers of bytes at a rate. The number of symbols is found by counting.
func airtimes(i int) []int {
	var l []int
	symbols := 0
	for bytes := 0; bytes <= mostBytes; bytes++ {
		for symbols*bits[i] < 8*bytes+22 {
			symbols++
		}
		l = append(l, 20+4*symbols)
	}
	return l
}

// allAirtimes returns the airtimes at all rates.
var allAirtimes = sync.OnceValue(func() [][]int {
	var l [][]int
	for i := range bits {
		l = append(l, airtimes(i))
	}
	return l
})

func airOf(i, bytes int) int { return allAirtimes()[i][bytes] }

// lengthOf returns what Length has to return.
func lengthOf(i, micros int) (int, api.Errno) {
	if i < 0 || i > 11 {
		return 0, api.ErrArg
	}
	longer, _ := slices.BinarySearchFunc(allAirtimes()[i], micros, func(air, micros int) int {
		if air <= micros {
			return -1
		}
		return 1
	})
	if longer == 0 {
		return 0, api.ErrTime
	}
	return longer - 1, api.OK
}

func responseOf(i int) int {
	found := -1
	for _, k := range basic {
		if k <= i {
			found = k
		}
	}
	return found
}

func bestOf(level int) (int, bool) {
	best, is := 0, false
	for i, need := range needs {
		if need <= level {
			best, is = i, true
		}
	}
	return best, is
}

// What the tests expect.

func want(t *testing.T, what string, args []int, got int, e api.Errno, wantGot int, wantE api.Errno) {
	t.Helper()
	if got != wantGot || e != wantE {
		t.Fatalf("%s of %d: %d, %v; want %d, %v", what, args, got, e, wantGot, wantE)
	}
}

func wantAir(t *testing.T, i, bytes, wantAir int, wantE api.Errno) {
	t.Helper()
	a, e := rate.Air(i, bytes)
	want(t, "Air", []int{i, bytes}, a, e, wantAir, wantE)
}

func wantLength(t *testing.T, i, micros, wantBytes int, wantE api.Errno) {
	t.Helper()
	n, e := rate.Length(i, micros)
	want(t, "Length", []int{i, micros}, n, e, wantBytes, wantE)
}

func wantTotal(t *testing.T, i, bytes, wantTotal int, wantE api.Errno) {
	t.Helper()
	a, e := rate.Total(i, bytes)
	want(t, "Total", []int{i, bytes}, a, e, wantTotal, wantE)
}

func wantBest(t *testing.T, level, wantI int, wantIs bool) {
	t.Helper()
	if i, is := rate.Best(level); i != wantI || is != wantIs {
		t.Fatalf("Best of %d: %d, %t; want %d, %t", level, i, is, wantI, wantIs)
	}
}

// mustAir returns an airtime that there is.
func mustAir(t *testing.T, i, bytes int) int {
	t.Helper()
	a, e := rate.Air(i, bytes)
	if e != api.OK {
		t.Fatalf("Air of %d, %d: %v", i, bytes, e)
	}
	return a
}

// extremes are numbers whose sums and products do not fit into a number.
var extremes = []int{
	math.MinInt, math.MinInt + 1, math.MinInt + 20, math.MinInt + 24, math.MinInt / 8, math.MinInt32, -1 << 16,
	1 << 16, math.MaxInt32, 1 << 32, 1 << 40, 1<<40 + 1, 1 << 58, 1 << 59, 1 << 60, 1 << 61, 1<<61 + 14, math.MaxInt / 8, math.MaxInt / 2, math.MaxInt - 20, math.MaxInt - 1, math.MaxInt,
}

// outside are indices that no rate has.
var outside = append([]int{-12, -2, -1, 12, 13, 24, 255, 256, 1<<32 + 3}, extremes...)

// lengthsToTry are numbers of bytes inside and around the limits.
func lengthsToTry() []int {
	l := []int{-2, -1, 0, 1, 14, 20, 30, 1500, mostBytes - 1, mostBytes, mostBytes + 1, mostBytes + 2}
	return append(l, extremes...)
}

// P9.1

func TestCount(t *testing.T) {
	if n := rate.Count(); n != 12 {
		t.Errorf("Count: %d", n)
	}
}

func TestGet(t *testing.T) {
	for i := range 12 {
		if r, e := rate.Get(i); r != rateOf(i) || e != api.OK {
			t.Errorf("Get of %d: %v, %v; want %v", i, r, e, rateOf(i))
		}
	}
	for _, i := range outside {
		if r, e := rate.Get(i); r != (api.Rate{}) || e != api.ErrArg {
			t.Errorf("Get of %d: %v, %v", i, r, e)
		}
	}
}

func TestBest(t *testing.T) {
	for _, c := range []struct {
		level, want int
		is          bool
	}{
		{-821, 0, false}, {-820, 0, true}, {-819, 0, true},
		{-809, 0, true}, {-808, 1, true}, {-789, 1, true}, {-788, 2, true}, {-769, 2, true}, {-768, 3, true},
		{-739, 3, true}, {-738, 4, true}, {-703, 4, true}, {-702, 5, true}, {-665, 5, true}, {-664, 6, true},
		{-653, 6, true}, {-652, 7, true}, {-641, 7, true}, {-640, 8, true}, {-591, 8, true}, {-590, 9, true},
		{-569, 9, true}, {-568, 10, true}, {-539, 10, true}, {-538, 11, true}, {-537, 11, true}, {0, 11, true}, {300, 11, true},
	} {
		wantBest(t, c.level, c.want, c.is)
	}
}

func TestBestOfAllLevels(t *testing.T) {
	levels := slices.Clone(extremes)
	for level := -2000; level <= 2000; level++ {
		levels = append(levels, level)
	}
	for _, level := range levels {
		i, is := bestOf(level)
		wantBest(t, level, i, is)
	}
}

func TestResponse(t *testing.T) {
	for i, k := range []int{0, 0, 2, 2, 4, 4, 4, 4, 4, 4, 4, 4} {
		got, e := rate.Response(i)
		want(t, "Response", []int{i}, got, e, k, api.OK)
		want(t, "Response by the definition", []int{i}, responseOf(i), e, k, api.OK)
	}
	for _, i := range outside {
		got, e := rate.Response(i)
		want(t, "Response", []int{i}, got, e, 0, api.ErrArg)
	}
}

// P9.2

func TestAir(t *testing.T) {
	for _, c := range []struct{ i, bytes, want int }{
		{0, 0, 24}, {0, 1, 28}, {0, 3, 28}, {0, 4, 32}, {0, 14, 44}, {0, 15, 44}, {0, 16, 48}, {0, 1500, 2024}, {0, 65535, 87404},
		{1, 0, 24}, {1, 1, 24}, {1, 2, 28}, {2, 3, 24}, {2, 4, 28}, {3, 6, 24}, {3, 7, 28}, {4, 9, 24}, {4, 10, 28}, {4, 100, 56},
		{5, 15, 24}, {5, 16, 28}, {6, 21, 24}, {6, 22, 28}, {7, 24, 24}, {7, 25, 28}, {8, 30, 24}, {8, 31, 28},
		{9, 36, 24}, {9, 37, 28}, {10, 46, 24}, {10, 47, 28}, {11, 0, 24}, {11, 56, 24}, {11, 57, 28}, {11, 1500, 124}, {11, 65535, 4428},
	} {
		wantAir(t, c.i, c.bytes, c.want, api.OK)
	}
}

func TestAirOfAllLengths(t *testing.T) {
	for i := range 12 {
		for bytes := range mostBytes + 1 {
			wantAir(t, i, bytes, airOf(i, bytes), api.OK)
		}
	}
}

func TestAirOfOtherArguments(t *testing.T) {
	for i := range 12 {
		for _, bytes := range append([]int{-65535, -14, -2, -1, 65536, 65537, 131071}, extremes...) {
			wantAir(t, i, bytes, 0, api.ErrArg)
			wantTotal(t, i, bytes, 0, api.ErrArg)
		}
	}
	for _, i := range outside {
		for _, bytes := range lengthsToTry() {
			wantAir(t, i, bytes, 0, api.ErrArg)
			wantTotal(t, i, bytes, 0, api.ErrArg)
		}
	}
}

// responses are the functions for responses, with their bytes, and the airtimes at the rates 0, 2 and 4.
var responses = []struct {
	name     string
	air      func(i int) (int, api.Errno)
	bytes    int
	airtimes map[int]int
}{
	{"AckAir", rate.AckAir, 14, map[int]int{0: 44, 2: 32, 4: 28}},
	{"RtsAir", rate.RtsAir, 20, map[int]int{0: 52, 2: 36, 4: 28}},
	{"BackAir", rate.BackAir, 30, map[int]int{0: 64, 2: 44, 4: 32}},
}

func TestAirtimesOfResponses(t *testing.T) {
	for _, c := range responses {
		for i := range 12 {
			got, e := c.air(i)
			want(t, c.name, []int{i}, got, e, c.airtimes[responseOf(i)], api.OK)
			wantAir(t, responseOf(i), c.bytes, got, api.OK)
		}
		for _, i := range outside {
			got, e := c.air(i)
			want(t, c.name, []int{i}, got, e, 0, api.ErrArg)
		}
	}
}

func TestTotal(t *testing.T) {
	for _, c := range []struct{ i, bytes, want int }{
		{0, 0, 84}, {0, 14, 104}, {1, 0, 84}, {1, 100, 172}, {2, 0, 72}, {3, 0, 72}, {3, 14, 76}, {4, 0, 68}, {4, 100, 100},
		{10, 1024, 148}, {11, 1024, 136}, {11, 1500, 168}, {0, 65535, 87464}, {11, 65535, 4472},
	} {
		wantTotal(t, c.i, c.bytes, c.want, api.OK)
	}
}

func TestTotalOfAllLengths(t *testing.T) {
	for i := range 12 {
		ack := airOf(responseOf(i), 14)
		for bytes := range mostBytes + 1 {
			wantTotal(t, i, bytes, airOf(i, bytes)+sifs+ack, api.OK)
		}
	}
}

// P9.3

func TestLength(t *testing.T) {
	for _, c := range []struct{ i, micros, want int }{
		{0, 24, 0}, {0, 27, 0}, {0, 28, 3}, {0, 31, 3}, {0, 32, 6}, {0, 44, 15}, {0, 2023, 1497}, {0, 2024, 1500},
		{1, 24, 1}, {2, 24, 3}, {3, 24, 6}, {4, 24, 9}, {5, 24, 15}, {6, 24, 21}, {7, 24, 24}, {8, 24, 30}, {9, 24, 36}, {10, 24, 46},
		{11, 24, 56}, {11, 27, 56}, {11, 28, 116}, {11, 124, 1544}, {11, 4424, 65506}, {11, 4427, 65506}, {11, 4428, 65535}, {11, 4429, 65535},
		{0, 87400, 65532}, {0, 87403, 65532}, {0, 87404, 65535}, {0, 87405, 65535}, {0, 87408, 65535}, {0, 1 << 40, 65535},
	} {
		wantLength(t, c.i, c.micros, c.want, api.OK)
	}
}

func TestLengthOfTooLittleTime(t *testing.T) {
	for i := range 12 {
		for _, micros := range []int{math.MinInt, math.MinInt + 1, math.MinInt + 20, math.MinInt / 2, math.MinInt32, -24, -4, -1, 0, 1, 4, 19, 20, 21, 22, 23} {
			wantLength(t, i, micros, 0, api.ErrTime)
		}
	}
}

func TestLengthOfAllTimes(t *testing.T) {
	for i := range 12 {
		for micros := -100; micros <= 88000; micros++ {
			n, e := lengthOf(i, micros)
			wantLength(t, i, micros, n, e)
		}
		for _, micros := range extremes {
			n, e := lengthOf(i, micros)
			wantLength(t, i, micros, n, e)
		}
	}
}

// The error of the index is named first.
func TestLengthOfOtherIndices(t *testing.T) {
	for _, i := range outside {
		for _, micros := range append([]int{-1, 0, 23, 24, 100, 4428, 87404}, extremes...) {
			wantLength(t, i, micros, 0, api.ErrArg)
		}
	}
}

// P9.4

func TestAirGrowsWithBytes(t *testing.T) {
	for i := range 12 {
		before := mustAir(t, i, 0)
		for bytes := 1; bytes <= mostBytes; bytes++ {
			a := mustAir(t, i, bytes)
			if a < before {
				t.Fatalf("Air of %d falls from %d to %d with the byte %d", i, before, a, bytes)
			}
			before = a
		}
	}
}

func TestAirFallsWithIndex(t *testing.T) {
	for bytes := range mostBytes + 1 {
		before := mustAir(t, 0, bytes)
		for i := 1; i < 12; i++ {
			a := mustAir(t, i, bytes)
			if a > before {
				t.Fatalf("Air of %d bytes rises from %d to %d at the rate %d", bytes, before, a, i)
			}
			before = a
		}
	}
}

func TestTwoTakeLongerThanOne(t *testing.T) {
	for i := range 12 {
		for first := range 400 {
			for second := range 400 {
				wantTwoLonger(t, i, first, second)
			}
		}
	}
	rng := rand.New(rand.NewSource(9))
	for range 300000 {
		all := rng.Intn(mostBytes + 1)
		first := rng.Intn(all + 1)
		wantTwoLonger(t, rng.Intn(12), first, all-first)
	}
}

func wantTwoLonger(t *testing.T, i, first, second int) {
	t.Helper()
	if two, one := mustAir(t, i, first)+mustAir(t, i, second), mustAir(t, i, first+second); two < one {
		t.Fatalf("at the rate %d, %d and %d bytes take %d, and all of them %d", i, first, second, two, one)
	}
}

// wantFit checks that Length bytes fit into the time, and that one more does not.
func wantFit(t *testing.T, i, micros int) {
	t.Helper()
	n, e := rate.Length(i, micros)
	if e != api.OK {
		if e != api.ErrTime || mustAir(t, i, 0) <= micros {
			t.Fatalf("Length of %d, %d: %v", i, micros, e)
		}
		return
	}
	if a := mustAir(t, i, n); a > micros {
		t.Fatalf("Length of %d, %d: %d bytes, which take %d", i, micros, n, a)
	}
	if n < mostBytes && mustAir(t, i, n+1) <= micros {
		t.Fatalf("Length of %d, %d: %d bytes, but one more fits", i, micros, n)
	}
}

func TestLengthAndAirFit(t *testing.T) {
	for i := range 12 {
		for micros := -100; micros <= 88000; micros++ {
			wantFit(t, i, micros)
		}
		for _, micros := range extremes {
			wantFit(t, i, micros)
		}
		for bytes := range mostBytes + 1 {
			n, e := rate.Length(i, mustAir(t, i, bytes))
			if e != api.OK || n < bytes || airOf(i, n) != airOf(i, bytes) {
				t.Fatalf("Length of the airtime of %d, %d: %d, %v", i, bytes, n, e)
			}
		}
	}
}

func TestBestGrowsWithLevel(t *testing.T) {
	before, wasFound := rate.Best(-2000)
	for level := -1999; level <= 2000; level++ {
		i, is := rate.Best(level)
		if i < before || wasFound && !is {
			t.Fatalf("Best falls from %d, %t to %d, %t at %d", before, wasFound, i, is, level)
		}
		before, wasFound = i, is
	}
}

// A rate that is the best one for a level is allowed at it, and no later one is.
func TestBestAndGetFit(t *testing.T) {
	for level := -1000; level <= 100; level++ {
		best, is := rate.Best(level)
		for i := range rate.Count() {
			r, _ := rate.Get(i)
			if allowed := r.Need <= level; allowed != (is && i <= best) {
				t.Fatalf("Best of %d: %d, %t, but the rate %d needs %d", level, best, is, i, r.Need)
			}
		}
	}
}

// The examples.

func TestExample(t *testing.T) {
	wantAir(t, 0, 14, 44, api.OK)
	wantAir(t, 11, 1500, 124, api.OK)
	wantBest(t, -700, 5, true)
	if a, e := rate.AckAir(3); a != 32 || e != api.OK {
		t.Errorf("AckAir of 3: %d, %v", a, e)
	}
	if k, e := rate.Response(3); k != 2 || e != api.OK {
		t.Errorf("Response of 3: %d, %v", k, e)
	}
}

// R2: a result that is changed changes no later one, and calls in any order have the same results.

func TestNothingIsKept(t *testing.T) {
	r, _ := rate.Get(4)
	r.Bits, r.Need, r.Basic = 1, 1000, false
	if again, e := rate.Get(4); again != rateOf(4) || e != api.OK {
		t.Errorf("Get of 4 after its result was changed: %v, %v", again, e)
	}
	rng := rand.New(rand.NewSource(2))
	for range 100000 {
		i, micros, level := rng.Intn(16)-2, rng.Intn(90000)-100, rng.Intn(500)-900
		n, e := lengthOf(i, micros)
		wantLength(t, i, micros, n, e)
		best, is := bestOf(level)
		wantBest(t, level, best, is)
	}
}

// R7

func TestAllCallsEnd(t *testing.T) {
	numbers := append(lengthsToTry(), outside...)
	for _, i := range append(numbers, 3) {
		rate.Get(i)
		rate.Best(i)
		rate.Response(i)
		rate.AckAir(i)
		rate.RtsAir(i)
		rate.BackAir(i)
		for _, n := range numbers {
			rate.Air(i, n)
			rate.Length(i, n)
			rate.Total(i, n)
		}
	}
}

func FuzzAir(f *testing.F) {
	f.Add(0, 14)
	f.Add(11, 1500)
	f.Add(4, 65535)
	f.Add(12, 0)
	f.Add(3, -1)
	f.Add(7, math.MaxInt)
	f.Fuzz(func(t *testing.T, i, n int) {
		known := i >= 0 && i < 12
		if known && n >= 0 && n <= mostBytes {
			wantAir(t, i, n, airOf(i, n), api.OK)
			wantTotal(t, i, n, airOf(i, n)+sifs+airOf(responseOf(i), 14), api.OK)
		} else {
			wantAir(t, i, n, 0, api.ErrArg)
			wantTotal(t, i, n, 0, api.ErrArg)
		}
		length, e := lengthOf(i, n)
		wantLength(t, i, n, length, e)
		if known {
			wantFit(t, i, n)
		}
		best, is := bestOf(n)
		wantBest(t, n, best, is)
	})
}
