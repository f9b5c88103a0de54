package address_test

import (
	"bytes"
	"cmp"
	"fmt"
	"maps"
	"math"
	"math/rand"
	"slices"
	"strings"
	"testing"

	"hotspot/address"
	"hotspot/api"
)

// example is the address of the document's example.
var example = api.Addr{2, 0, 0, 0, 0, 17}

// someAddrs are addresses in increasing order, with neighbours that differ in each byte and in the highest bits.
func someAddrs() []api.Addr {
	return []api.Addr{
		{},
		{0, 0, 0, 0, 0, 1},
		{0, 0, 0, 0, 0, 127},
		{0, 0, 0, 0, 0, 128},
		{0, 0, 0, 0, 0, 255},
		{0, 0, 0, 0, 1},
		{0, 0, 0, 1},
		{0, 0, 1},
		{0, 1},
		{0, 255, 255, 255, 255, 255},
		{1},
		example,
		{2, 0, 0, 0, 0, 18},
		{2, 171, 16, 0, 255, 156},
		{127, 255, 255, 255, 255, 255},
		{128},
		{255, 255, 255, 255, 255, 254},
		{255, 255, 255, 255, 255, 255},
	}
}

func randomAddr(rng *rand.Rand) api.Addr {
	var a api.Addr
	rng.Read(a[:])
	return a
}

// run returns n addresses in strictly increasing order, of which the first has the given number; their numbers are step apart.
func run(first uint64, n, step int) []api.Addr {
	l := make([]api.Addr, n)
	for i := range l {
		l[i], _ = address.Of(first + uint64(i*step))
	}
	return l
}

func wantError(t *testing.T, what string, got, want api.Errno) {
	t.Helper()
	if got != want {
		t.Errorf("%s: error %d, want %d", what, got, want)
	}
}

func wantSet(t *testing.T, what string, got []api.Addr, e api.Errno, want []api.Addr) {
	t.Helper()
	if !slices.Equal(got, want) || e != api.OK {
		t.Errorf("%s: %v, error %d, want %v", what, got, e, want)
	}
}

func wantNoSet(t *testing.T, what string, got []api.Addr, e, want api.Errno) {
	t.Helper()
	if len(got) != 0 || e != want {
		t.Errorf("%s: %d addresses, error %d, want %d", what, len(got), e, want)
	}
}

// P2.1

func TestExample(t *testing.T) {
	if s := address.Format(example); s != "02:00:00:00:00:11" {
		t.Error(s)
	}
	if n := address.Number(example); n != 2199023255569 {
		t.Error(n)
	}
	if !address.Local(example) || address.Group(example) {
		t.Error("not local, or a group")
	}
}

func TestFormat(t *testing.T) {
	cases := []struct {
		a    api.Addr
		want string
	}{
		{api.Addr{}, "00:00:00:00:00:00"},
		{api.Addr{255, 255, 255, 255, 255, 255}, "ff:ff:ff:ff:ff:ff"},
		{api.Addr{0x01, 0x23, 0x45, 0x67, 0x89, 0xab}, "01:23:45:67:89:ab"},
		{api.Addr{0xcd, 0xef, 0x09, 0x90, 0x0a, 0xa0}, "cd:ef:09:90:0a:a0"},
	}
	for _, c := range cases {
		if got := address.Format(c.a); got != c.want {
			t.Errorf("%v: %q, want %q", c.a, got, c.want)
		}
	}
}

func TestFormatOfEveryByte(t *testing.T) {
	for v := range 256 {
		for i := range 6 {
			var a api.Addr
			a[i] = byte(v)
			want := fmt.Sprintf("%02x:%02x:%02x:%02x:%02x:%02x", a[0], a[1], a[2], a[3], a[4], a[5])
			if got := address.Format(a); got != want {
				t.Errorf("%v: %q, want %q", a, got, want)
			}
			if back, e := address.Parse(want); back != a || e != api.OK {
				t.Errorf("%q: %v %d", want, back, e)
			}
		}
	}
}

func wantNoAddr(t *testing.T, s string) {
	t.Helper()
	if a, e := address.Parse(s); a != (api.Addr{}) || e != api.ErrForm {
		t.Errorf("%q: %v %d", s, a, e)
	}
}

func TestParseRefusesOtherTexts(t *testing.T) {
	const text = "02:ab:10:00:ff:9c"
	for n := range text {
		wantNoAddr(t, text[:n])
		wantNoAddr(t, text[n+1:])
	}
	others := []string{
		text + " ", " " + text, text + ":", ":" + text, text + "0", text + "\x00", text + ":00",
		"02:AB:10:00:FF:9C", "02-ab-10-00-ff-9c", "02.ab.10.00.ff.9c", "02ab.1000.ff9c", "02ab1000ff9c",
		"2:ab:10:0:ff:9c", "2:ab:10:00:ff:9c0", "002:ab:10:00:ff:9", "02:ab::10:00:ff:9", "0x2:ab:10:00:ff:9",
		"+2:ab:10:00:ff:9c", "-2:ab:10:00:ff:9c", " 2:ab:10:00:ff:9c", "2 :ab:10:00:ff:9c", "0_:ab:10:00:ff:9c",
		":::::::::::::::::", strings.Repeat("0", 17), strings.Repeat("00:", 6), strings.Repeat("0", 1000),
		"\u00e92:ab:10:00:ff:9c", "\u00e9:ab:10:00:ff:9c", "02\uff1aab:10:00:ff:9c",
	}
	for _, s := range others {
		wantNoAddr(t, s)
	}
}

// TestParseOneByteChanged puts every byte at every place of a text form.
func TestParseOneByteChanged(t *testing.T) {
	const text = "02:ab:10:00:ff:9c"
	for i := range text {
		for c := range 256 {
			b := []byte(text)
			b[i] = byte(c)
			allowed := "0123456789abcdef"
			if i%3 == 2 {
				allowed = ":"
			}
			if strings.IndexByte(allowed, byte(c)) < 0 {
				wantNoAddr(t, string(b))
				continue
			}
			if a, e := address.Parse(string(b)); e != api.OK || address.Format(a) != string(b) {
				t.Errorf("%q: %v %d", b, a, e)
			}
		}
	}
}

func TestCompare(t *testing.T) {
	l := someAddrs()
	for i, a := range l {
		for j, b := range l {
			if got := address.Compare(a, b); got != cmp.Compare(i, j) {
				t.Errorf("%v and %v: %d", a, b, got)
			}
		}
	}
}

func TestNumber(t *testing.T) {
	cases := []struct {
		a api.Addr
		n uint64
	}{
		{api.Addr{}, 0},
		{api.Addr{0, 0, 0, 0, 0, 1}, 1},
		{api.Addr{0, 0, 0, 0, 1, 0}, 256},
		{api.Addr{1, 0, 0, 0, 0, 0}, 1 << 40},
		{api.Addr{1, 2, 3, 4, 5, 6}, 0x010203040506},
		{api.Addr{0x02, 0xab, 0x10, 0x00, 0xff, 0x9c}, 0x02ab1000ff9c},
		{api.Addr{255, 255, 255, 255, 255, 255}, 1<<48 - 1},
	}
	for _, c := range cases {
		if got := address.Number(c.a); got != c.n {
			t.Errorf("%v: %d, want %d", c.a, got, c.n)
		}
		if got, e := address.Of(c.n); got != c.a || e != api.OK {
			t.Errorf("%d: %v %d, want %v", c.n, got, e, c.a)
		}
	}
}

func TestOfTooGreat(t *testing.T) {
	for _, n := range []uint64{1 << 48, 1<<48 + 1, 1 << 49, 1<<56 + 5, 1 << 63, math.MaxUint64} {
		if a, e := address.Of(n); a != (api.Addr{}) || e != api.ErrArg {
			t.Errorf("%d: %v %d", n, a, e)
		}
	}
}

func TestGroupAndLocal(t *testing.T) {
	for v := range 256 {
		for _, rest := range []byte{0, 255} { // the other bytes do not matter
			a := api.Addr{byte(v), rest, rest, rest, rest, rest}
			if got := address.Group(a); got != (v%2 == 1) {
				t.Errorf("%v group: %v", a, got)
			}
			if got := address.Local(a); got != (v/2%2 == 1) {
				t.Errorf("%v local: %v", a, got)
			}
		}
	}
}

func TestBroadcast(t *testing.T) {
	a := address.Broadcast()
	if a != (api.Addr{255, 255, 255, 255, 255, 255}) || !address.Group(a) || !address.Local(a) {
		t.Error(a)
	}
}

func TestMatch(t *testing.T) {
	all, none := address.Broadcast(), api.Addr{}
	cases := []struct {
		a, pattern, mask api.Addr
		want             bool
	}{
		{example, example, all, true},
		{example, api.Addr{2, 0, 0, 0, 0, 18}, all, false},
		{example, all, none, true},
		{none, none, all, true},
		{none, all, all, false},
		{api.Addr{1, 2, 3}, api.Addr{1, 2, 4}, api.Addr{255, 255}, true},
		{api.Addr{1, 2, 3}, api.Addr{1, 2, 4}, api.Addr{255, 255, 4}, false},
		{api.Addr{1, 2, 3}, api.Addr{1, 2, 7}, api.Addr{255, 255, 251}, true},
		{api.Addr{0xa5, 9}, api.Addr{0x05}, api.Addr{0x0f}, true},
		{api.Addr{0x05}, api.Addr{0xa5, 9}, api.Addr{0x0f}, true}, // bits of the pattern outside of the mask do not matter
	}
	for _, c := range cases {
		if got := address.Match(c.a, c.pattern, c.mask); got != c.want {
			t.Errorf("%v with %v under %v: %v", c.a, c.pattern, c.mask, got)
		}
	}
}

func TestMatchOfEveryBit(t *testing.T) {
	for i := range 48 {
		other, mask := example, api.Addr{}
		other[i/8] ^= 1 << (i % 8)
		mask[i/8] = 1 << (i % 8)
		if address.Match(other, example, mask) || address.Match(example, other, mask) {
			t.Error("differs in the bit of the mask:", i)
		}
		for j := range mask {
			mask[j] ^= 255
		}
		if !address.Match(other, example, mask) {
			t.Error("differs outside of the mask:", i)
		}
	}
}

// P2.2

// badSets are lists that are no sets.
func badSets() map[string][]api.Addr {
	a, b, c := api.Addr{1}, api.Addr{2}, api.Addr{3}
	swapped := run(0, api.MaxSet, 1)
	swapped[254], swapped[255] = swapped[255], swapped[254]
	return map[string][]api.Addr{
		"twice":          {a, a},
		"zero twice":     {{}, {}},
		"falling":        {b, a},
		"twice at end":   {a, b, b},
		"twice in front": {a, a, b},
		"falling at end": {a, c, b},
		"first late":     {b, a, c},
		"last byte":      {{0, 0, 0, 0, 0, 2}, {0, 0, 0, 0, 0, 1}},
		"too many":       run(0, api.MaxSet+1, 1),
		"far too many":   run(0, 5000, 3),
		"last two":       swapped,
	}
}

func TestCheckSet(t *testing.T) {
	good := [][]api.Addr{
		nil, {}, {{}}, {example}, {address.Broadcast()}, someAddrs(),
		run(0, api.MaxSet, 1), run(1<<48-api.MaxSet, api.MaxSet, 1), run(0, api.MaxSet-1, 1<<30),
	}
	for _, s := range good {
		wantError(t, fmt.Sprint("set of ", len(s)), address.CheckSet(s), api.OK)
	}
	for what, s := range badSets() {
		wantError(t, what, address.CheckSet(s), api.ErrBad)
	}
}

func TestBadSetsAreRefused(t *testing.T) {
	good := []api.Addr{{1}, {2}, {3}}
	full := run(1<<30, api.MaxSet, 1)
	for what, bad := range badSets() {
		for _, a := range []api.Addr{bad[0], bad[len(bad)-1], {9}, {}} { // in the list and not: ErrBad is named before ErrFull and ErrNone
			l, e := address.Add(bad, a)
			wantNoSet(t, "add to "+what, l, e, api.ErrBad)
			l, e = address.Remove(bad, a)
			wantNoSet(t, "remove from "+what, l, e, api.ErrBad)
			if has, e := address.Has(bad, a); has || e != api.ErrBad {
				t.Errorf("has of %s: %v %d", what, has, e)
			}
		}
		for _, other := range [][]api.Addr{nil, good, full, bad} {
			for _, pair := range [][2][]api.Addr{{bad, other}, {other, bad}} {
				l, e := address.Union(pair[0], pair[1])
				wantNoSet(t, "union with "+what, l, e, api.ErrBad)
				l, e = address.Meet(pair[0], pair[1])
				wantNoSet(t, "meet with "+what, l, e, api.ErrBad)
			}
		}
	}
}

func TestAdd(t *testing.T) {
	a, b, c, d := api.Addr{1}, api.Addr{2}, api.Addr{3}, api.Addr{4}
	cases := []struct {
		s    []api.Addr
		a    api.Addr
		want []api.Addr
	}{
		{nil, a, []api.Addr{a}},
		{nil, api.Addr{}, []api.Addr{{}}},
		{[]api.Addr{}, address.Broadcast(), []api.Addr{address.Broadcast()}},
		{[]api.Addr{b, c}, a, []api.Addr{a, b, c}},
		{[]api.Addr{a, c}, b, []api.Addr{a, b, c}},
		{[]api.Addr{a, b}, d, []api.Addr{a, b, d}},
		{[]api.Addr{a, b, c}, a, []api.Addr{a, b, c}},
		{[]api.Addr{a, b, c}, b, []api.Addr{a, b, c}},
		{[]api.Addr{a, b, c}, c, []api.Addr{a, b, c}},
	}
	for _, x := range cases {
		got, e := address.Add(x.s, x.a)
		wantSet(t, "add "+address.Format(x.a), got, e, x.want)
	}
}

func TestAddToFullSet(t *testing.T) {
	full := run(10, api.MaxSet, 2)
	for _, a := range full {
		got, e := address.Add(full, a)
		wantSet(t, "add what is there", got, e, full)
	}
	for _, n := range []uint64{0, 9, 11, 10 + 2*255 - 1, 10 + 2*256, 1<<48 - 1} {
		a, _ := address.Of(n)
		got, e := address.Add(full, a)
		wantNoSet(t, "add to a full set", got, e, api.ErrFull)
	}
	last := full[api.MaxSet-1]
	got, e := address.Add(full[:api.MaxSet-1], last)
	wantSet(t, "add the last one", got, e, full)
}

func TestRemove(t *testing.T) {
	l := someAddrs()
	for i, a := range l {
		got, e := address.Remove(l, a)
		wantSet(t, "remove "+address.Format(a), got, e, slices.Delete(someAddrs(), i, i+1))
		less := slices.Delete(someAddrs(), i, i+1)
		got, e = address.Remove(less, a)
		wantNoSet(t, "remove what is not there", got, e, api.ErrNone)
	}
	got, e := address.Remove([]api.Addr{{}}, api.Addr{})
	wantSet(t, "remove the only one", got, e, nil)
	got, e = address.Remove(nil, api.Addr{})
	wantNoSet(t, "remove from nothing", got, e, api.ErrNone)
	full := run(0, api.MaxSet, 1)
	got, e = address.Remove(full, full[0])
	wantSet(t, "remove from a full set", got, e, full[1:])
	got, e = address.Remove(full, address.Broadcast())
	wantNoSet(t, "remove from a full set", got, e, api.ErrNone)
}

func TestHas(t *testing.T) {
	l := someAddrs()
	for i, a := range l {
		if has, e := address.Has(l, a); !has || e != api.OK {
			t.Error("is there:", a, has, e)
		}
		if has, e := address.Has(slices.Delete(someAddrs(), i, i+1), a); has || e != api.OK {
			t.Error("is not there:", a, has, e)
		}
	}
	if has, e := address.Has(nil, api.Addr{}); has || e != api.OK {
		t.Error("nothing is there:", has, e)
	}
	spare := append(make([]api.Addr, 0, 9), api.Addr{1}, api.Addr{2})
	if has, e := address.Has(spare[:1], api.Addr{2}); has || e != api.OK {
		t.Error("behind the length:", has, e)
	}
}

func TestUnionAndMeet(t *testing.T) {
	a, b, c, d := api.Addr{1}, api.Addr{2}, api.Addr{3}, api.Addr{4}
	cases := []struct{ s, t, union, meet []api.Addr }{
		{nil, nil, nil, nil},
		{nil, []api.Addr{a, b}, []api.Addr{a, b}, nil},
		{[]api.Addr{{}}, nil, []api.Addr{{}}, nil},
		{[]api.Addr{{}}, []api.Addr{{}}, []api.Addr{{}}, []api.Addr{{}}},
		{[]api.Addr{a, b}, []api.Addr{c, d}, []api.Addr{a, b, c, d}, nil},
		{[]api.Addr{a, c}, []api.Addr{b, d}, []api.Addr{a, b, c, d}, nil},
		{[]api.Addr{a, d}, []api.Addr{b, c}, []api.Addr{a, b, c, d}, nil},
		{[]api.Addr{a, b, c}, []api.Addr{b, c, d}, []api.Addr{a, b, c, d}, []api.Addr{b, c}},
		{[]api.Addr{a, b, c, d}, []api.Addr{a, d}, []api.Addr{a, b, c, d}, []api.Addr{a, d}},
		{someAddrs(), someAddrs(), someAddrs(), someAddrs()},
	}
	for _, x := range cases {
		for _, pair := range [][2][]api.Addr{{x.s, x.t}, {x.t, x.s}} {
			got, e := address.Union(pair[0], pair[1])
			wantSet(t, "union", got, e, x.union)
			got, e = address.Meet(pair[0], pair[1])
			wantSet(t, "meet", got, e, x.meet)
		}
	}
}

func TestUnionOfMany(t *testing.T) {
	full := run(0, api.MaxSet, 2)
	got, e := address.Union(full, full)
	wantSet(t, "a full set with itself", got, e, full)
	got, e = address.Union(full, full[7:90])
	wantSet(t, "a full set with a part", got, e, full)
	got, e = address.Union(full[:100], full[100:])
	wantSet(t, "two parts", got, e, full)
	got, e = address.Union(full[:150], full[50:])
	wantSet(t, "two parts that overlap", got, e, full)
	others := [][]api.Addr{run(1, 1, 2), run(511, 1, 2), run(1, api.MaxSet, 2), run(10000, api.MaxSet, 1), run(2, api.MaxSet, 2)}
	for _, other := range others {
		for _, pair := range [][2][]api.Addr{{full, other}, {other, full}} {
			got, e := address.Union(pair[0], pair[1])
			wantNoSet(t, "too many", got, e, api.ErrFull)
		}
	}
	got, e = address.Meet(full, run(2, api.MaxSet, 2)) // Meet has no such limit
	wantSet(t, "meet of full sets", got, e, full[1:])
	got, e = address.Meet(full, run(1, api.MaxSet, 2))
	wantSet(t, "meet of full sets", got, e, nil)
}

// P2.3

func TestTextFormIsCanonical(t *testing.T) {
	rng := rand.New(rand.NewSource(1))
	seen := map[string]api.Addr{}
	for range 2000 {
		a := randomAddr(rng)
		s := address.Format(a)
		if other, old := seen[s]; old && other != a {
			t.Errorf("%v and %v: %q", a, other, s)
		}
		seen[s] = a
		if back, e := address.Parse(s); back != a || e != api.OK {
			t.Errorf("%v: %q, back %v %d", a, s, back, e)
		}
		if back, e := address.Of(address.Number(a)); back != a || e != api.OK {
			t.Errorf("%v: %d, back %v %d", a, address.Number(a), back, e)
		}
	}
}

func FuzzParse(f *testing.F) {
	for _, s := range []string{"", "02:00:00:00:00:11", "ff:ff:ff:ff:ff:ff", "02:AB:10:00:ff:9c", "g2:ab:10:00:ff:9c"} {
		f.Add(s)
	}
	f.Fuzz(func(t *testing.T, s string) {
		a, e := address.Parse(s)
		if e == api.OK && address.Format(a) != s {
			t.Errorf("%q is not the text form of %v", s, a)
		}
		if e != api.OK && (e != api.ErrForm || a != api.Addr{}) {
			t.Errorf("%q: %v %d", s, a, e)
		}
	})
}

func TestOrderIsThatOfTextForms(t *testing.T) {
	rng := rand.New(rand.NewSource(2))
	for range 3000 {
		a, b := randomAddr(rng), randomAddr(rng)
		copy(b[:rng.Intn(7)], a[:])
		want := strings.Compare(address.Format(a), address.Format(b))
		if address.Compare(a, b) != want || address.Compare(b, a) != -want || bytes.Compare(a[:], b[:]) != want {
			t.Errorf("%v and %v: %d, want %d", a, b, address.Compare(a, b), want)
		}
	}
}

// listed returns the keys of m as a set.
func listed(m map[api.Addr]bool) []api.Addr {
	var l []api.Addr
	for a := range m {
		l = append(l, a)
	}
	slices.SortFunc(l, func(a, b api.Addr) int { return bytes.Compare(a[:], b[:]) })
	return l
}

// randomSet returns a set with addresses of few different numbers, so that sets have many in common, and the same set as a map.
func randomSet(rng *rand.Rand) ([]api.Addr, map[api.Addr]bool) {
	m := map[api.Addr]bool{}
	for range rng.Intn(30) {
		m[api.Addr{byte(rng.Intn(3)), 5: byte(rng.Intn(15))}] = true
	}
	return listed(m), m
}

func TestSetsBehaveAsSets(t *testing.T) {
	rng := rand.New(rand.NewSource(3))
	for range 500 {
		s, inS := randomSet(rng)
		u, inU := randomSet(rng)
		both, either := map[api.Addr]bool{}, map[api.Addr]bool{}
		for a := range inS {
			either[a] = true
			if inU[a] {
				both[a] = true
			}
		}
		for a := range inU {
			either[a] = true
		}
		got, e := address.Union(s, u)
		wantSet(t, "union", got, e, listed(either))
		wantError(t, "union is a set", address.CheckSet(got), api.OK)
		got, e = address.Meet(s, u)
		wantSet(t, "meet", got, e, listed(both))
		for a := range either {
			if has, e := address.Has(s, a); has != inS[a] || e != api.OK {
				t.Errorf("%v in %v: %v %d", a, s, has, e)
			}
		}
	}
}

func TestAddAndRemoveUndoEachOther(t *testing.T) {
	rng := rand.New(rand.NewSource(4))
	for range 500 {
		s, in := randomSet(rng)
		a := api.Addr{byte(rng.Intn(3)), 5: byte(rng.Intn(15))}
		if in[a] {
			less, _ := address.Remove(s, a)
			got, e := address.Add(less, a)
			wantSet(t, "add after remove", got, e, s)
		} else {
			more, _ := address.Add(s, a)
			got, e := address.Remove(more, a)
			wantSet(t, "remove after add", got, e, s)
		}
	}
}

func TestOrderOfAddsAndRemovesDoesNotMatter(t *testing.T) {
	rng := rand.New(rand.NewSource(5))
	want := run(1000, api.MaxSet, 7)
	for range 5 {
		var s []api.Addr
		for _, i := range rng.Perm(len(want)) {
			var e api.Errno
			s, e = address.Add(s, want[i])
			wantError(t, "add", e, api.OK)
		}
		wantSet(t, "all added", s, address.CheckSet(s), want)
		for _, i := range rng.Perm(len(want)) {
			var e api.Errno
			s, e = address.Remove(s, want[i])
			wantError(t, "remove", e, api.OK)
		}
		wantSet(t, "all removed", s, api.OK, nil)
	}
	a, b := api.Addr{1}, api.Addr{2}
	s, _ := address.Add([]api.Addr{b}, a)
	s, _ = address.Remove(s, b)
	u, _ := address.Remove([]api.Addr{b}, b)
	u, _ = address.Add(u, a)
	if !slices.Equal(s, u) || !slices.Equal(s, []api.Addr{a}) {
		t.Error("an add and a remove in both orders:", s, u)
	}
}

// R2

// guarded returns s with three addresses behind its length, and a function that tells whether all of it is unchanged.
func guarded(s []api.Addr) ([]api.Addr, func() bool) {
	all := append(slices.Clone(s), api.Addr{7}, api.Addr{8}, api.Addr{9})
	before := slices.Clone(all)
	return all[:len(s)], func() bool { return slices.Equal(all, before) }
}

func spoil(s []api.Addr) {
	s = s[:cap(s)]
	for i := range s {
		for j := range s[i] {
			s[i][j] ^= 0xff
		}
	}
}

func TestSetsShareNoMemory(t *testing.T) {
	a, b, c, d := api.Addr{1}, api.Addr{2}, api.Addr{3}, api.Addr{4}
	two := []api.Addr{a, b}
	calls := []func(s []api.Addr) []api.Addr{
		func(s []api.Addr) []api.Addr { l, _ := address.Add(s, a); return l },
		func(s []api.Addr) []api.Addr { l, _ := address.Add(s, api.Addr{}); return l },
		func(s []api.Addr) []api.Addr { l, _ := address.Add(s, d); return l },
		func(s []api.Addr) []api.Addr { l, _ := address.Remove(s, a); return l },
		func(s []api.Addr) []api.Addr { l, _ := address.Remove(s, b); return l },
		func(s []api.Addr) []api.Addr { l, _ := address.Remove(s, c); return l },
		func(s []api.Addr) []api.Addr { l, _ := address.Union(s, nil); return l },
		func(s []api.Addr) []api.Addr { l, _ := address.Union(nil, s); return l },
		func(s []api.Addr) []api.Addr { l, _ := address.Union(s, s); return l },
		func(s []api.Addr) []api.Addr { l, _ := address.Union(s, two); return l },
		func(s []api.Addr) []api.Addr { l, _ := address.Union(two, s); return l },
		func(s []api.Addr) []api.Addr { l, _ := address.Meet(s, s); return l },
		func(s []api.Addr) []api.Addr { l, _ := address.Meet(s, two); return l },
		func(s []api.Addr) []api.Addr { l, _ := address.Meet(two, s); return l },
	}
	for i, call := range calls {
		for _, set := range [][]api.Addr{nil, {a, b, c}} {
			s, same := guarded(set)
			first, second := call(s), call(s)
			kept := slices.Clone(second)
			spoil(first)
			if !same() || !slices.Equal(second, kept) || !slices.Equal(two, []api.Addr{a, b}) {
				t.Errorf("call %d with %v shares memory", i, set)
			}
		}
	}
}

func TestArgumentsAreOnlyRead(t *testing.T) {
	for _, set := range append(slices.Collect(maps.Values(badSets())), nil, someAddrs(), run(0, api.MaxSet, 1)) {
		s, sameS := guarded(set)
		u, sameU := guarded(set)
		for _, a := range []api.Addr{{}, {2}, address.Broadcast()} {
			address.CheckSet(s)
			address.Add(s, a)
			address.Remove(s, a)
			address.Has(s, a)
		}
		address.Union(s, u)
		address.Meet(s, u)
		if !sameS() || !sameU() {
			t.Errorf("a set of %d was changed", len(set))
		}
	}
}
