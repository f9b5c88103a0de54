package octet_test

import (
	"bytes"
	"math"
	"math/rand"
	"slices"
	"testing"

	"hotspot/api"
	"hotspot/octet"
)

// badReaders are readers that are not valid.
func badReaders() []api.Reader {
	spare := make([]byte, 3, 20)
	return []api.Reader{
		{At: 1},
		{At: -1},
		{Data: []byte{}, At: 1},
		{Data: spare, At: 4},
		{Data: spare, At: 20},
		{Data: spare, At: -1},
		{Data: spare, At: math.MaxInt},
		{Data: spare, At: math.MinInt},
	}
}

// widths are the functions for numbers, with a common form.
var widths = []struct {
	size int
	get  func(api.Reader) (uint64, api.Reader, api.Errno)
	put  func([]byte, uint64) []byte
}{
	{1, widen(octet.U8), func(b []byte, v uint64) []byte { return octet.Put8(b, uint8(v)) }},
	{2, widen(octet.U16), func(b []byte, v uint64) []byte { return octet.Put16(b, uint16(v)) }},
	{4, widen(octet.U32), func(b []byte, v uint64) []byte { return octet.Put32(b, uint32(v)) }},
	{8, widen(octet.U64), octet.Put64},
}

func widen[T uint8 | uint16 | uint32 | uint64](get func(api.Reader) (T, api.Reader, api.Errno)) func(api.Reader) (uint64, api.Reader, api.Errno) {
	return func(r api.Reader) (uint64, api.Reader, api.Errno) {
		v, rest, e := get(r)
		return uint64(v), rest, e
	}
}

// count returns n bytes, 1, 2, 3 and so on.
func count(n int) []byte {
	b := make([]byte, n)
	for i := range b {
		b[i] = byte(i + 1)
	}
	return b
}

// sameReader compares readers; nil and empty data are equal.
func sameReader(a, b api.Reader) bool {
	return a.At == b.At && bytes.Equal(a.Data, b.Data)
}

// zeroReader tells whether r is the reader that comes with an error.
func zeroReader(r api.Reader) bool { return sameReader(r, api.Reader{}) }

func wantError(t *testing.T, what string, got, want api.Errno) {
	t.Helper()
	if got != want {
		t.Errorf("%s: error %d, want %d", what, got, want)
	}
}

// P1.1

func TestCheck(t *testing.T) {
	data := count(3)
	for at := range 4 {
		wantError(t, "valid reader", octet.Check(api.Reader{Data: data, At: at}), api.OK)
	}
	wantError(t, "zero reader", octet.Check(api.Reader{}), api.OK)
	for _, r := range badReaders() {
		wantError(t, "bad reader", octet.Check(r), api.ErrBad)
	}
}

func TestNumbersAreRead(t *testing.T) {
	data := []byte{0xff, 0xf1, 0xf2, 0xf3, 0xf4, 0xf5, 0xf6, 0xf7, 0xf8, 0xff}
	want := []uint64{0xf1, 0xf2f1, 0xf4f3f2f1, 0xf8f7f6f5f4f3f2f1}
	for i, w := range widths {
		v, r, e := w.get(api.Reader{Data: data, At: 1})
		if v != want[i] || e != api.OK || !sameReader(r, api.Reader{Data: data, At: 1 + w.size}) {
			t.Errorf("%d bytes: %#x %v %d", w.size, v, r, e)
		}
	}
}

func TestNumbersTooShort(t *testing.T) {
	for _, w := range widths {
		for left := range w.size {
			data := append(count(5+left), 9, 9, 9, 9, 9, 9, 9, 9)[:5+left]
			v, r, e := w.get(api.Reader{Data: data, At: 5})
			if v != 0 || !zeroReader(r) || e != api.ErrShort {
				t.Errorf("%d of %d bytes: %d %v %d", left, w.size, v, r, e)
			}
		}
	}
}

func TestNumbersOfBadReaders(t *testing.T) {
	for _, w := range widths {
		for _, r := range badReaders() {
			v, rest, e := w.get(r)
			if v != 0 || !zeroReader(rest) || e != api.ErrBad {
				t.Errorf("%d bytes of %v: %d %v %d", w.size, r, v, rest, e)
			}
		}
	}
}

func TestTake(t *testing.T) {
	data := count(5)
	for at := range 6 {
		for n := range 6 - at {
			b, r, e := octet.Take(api.Reader{Data: data, At: at}, n)
			if !bytes.Equal(b, data[at:at+n]) || !sameReader(r, api.Reader{Data: data, At: at + n}) || e != api.OK {
				t.Errorf("%d at %d: %v %v %d", n, at, b, r, e)
			}
		}
	}
	if _, _, e := octet.Take(api.Reader{}, 0); e != api.OK {
		t.Error("nothing of nothing:", e)
	}
}

func TestTakeErrors(t *testing.T) {
	fail := func(r api.Reader, n int, want api.Errno) {
		t.Helper()
		b, rest, e := octet.Take(r, n)
		if len(b) != 0 || !zeroReader(rest) || e != want {
			t.Errorf("%d of %v: %v %v %d, want %d", n, r, b, rest, e, want)
		}
	}
	data := count(20)[:5] // bytes behind the length are not read
	for _, n := range []int{4, 5, 15, math.MaxInt} {
		fail(api.Reader{Data: data, At: 2}, n, api.ErrShort)
	}
	for _, n := range []int{-1, -2, math.MinInt} {
		fail(api.Reader{Data: data, At: 2}, n, api.ErrArg)
		fail(api.Reader{Data: data, At: 5}, n, api.ErrArg)
		fail(api.Reader{}, n, api.ErrArg)
	}
	for _, r := range badReaders() {
		for _, n := range []int{-1, 0, 1, math.MaxInt, math.MinInt} {
			fail(r, n, api.ErrBad)
		}
	}
}

func TestText(t *testing.T) {
	data := []byte{2, 7, 8, 9}
	b, r, e := octet.Text(api.Reader{Data: data})
	if !bytes.Equal(b, []byte{7, 8}) || !sameReader(r, api.Reader{Data: data, At: 3}) || e != api.OK {
		t.Error(b, r, e)
	}
	b, r, e = octet.Text(api.Reader{Data: []byte{5, 0}, At: 1})
	if len(b) != 0 || r.At != 2 || e != api.OK {
		t.Error("empty text:", b, r, e)
	}
	long := append([]byte{255}, count(255)...)
	b, r, e = octet.Text(api.Reader{Data: long})
	if !bytes.Equal(b, long[1:]) || r.At != 256 || e != api.OK {
		t.Error("longest text:", b, r, e)
	}
}

func TestTextErrors(t *testing.T) {
	fail := func(r api.Reader, want api.Errno) {
		t.Helper()
		b, rest, e := octet.Text(r)
		if len(b) != 0 || !zeroReader(rest) || e != want {
			t.Errorf("%v: %v %v %d, want %d", r, b, rest, e, want)
		}
	}
	fail(api.Reader{}, api.ErrShort)
	fail(api.Reader{Data: []byte{0}, At: 1}, api.ErrShort)
	fail(api.Reader{Data: []byte{1}}, api.ErrShort)
	fail(api.Reader{Data: []byte{3, 7, 8}}, api.ErrShort)
	fail(api.Reader{Data: []byte{3, 7, 8, 9, 9}[:3]}, api.ErrShort)
	fail(api.Reader{Data: append([]byte{255}, count(254)...)}, api.ErrShort)
	for _, r := range badReaders() {
		fail(r, api.ErrBad)
	}
}

func TestDone(t *testing.T) {
	data := count(3)
	wantError(t, "end", octet.Done(api.Reader{Data: data, At: 3}), api.OK)
	wantError(t, "zero", octet.Done(api.Reader{}), api.OK)
	for at := range 3 {
		wantError(t, "left", octet.Done(api.Reader{Data: data, At: at}), api.ErrLong)
	}
	for _, r := range badReaders() {
		wantError(t, "bad", octet.Done(r), api.ErrBad)
	}
}

// P1.2

func TestNumbersAreWritten(t *testing.T) {
	v := uint64(0xf8f7f6f5f4f3f2f1)
	bytesOf := []byte{0xf1, 0xf2, 0xf3, 0xf4, 0xf5, 0xf6, 0xf7, 0xf8}
	for _, w := range widths {
		for _, front := range [][]byte{nil, {}, {1}, {1, 2, 3}} {
			want := slices.Concat(front, bytesOf[:w.size])
			if got := w.put(front, v); !bytes.Equal(got, want) {
				t.Errorf("%d bytes after %v: %v", w.size, front, got)
			}
		}
		if got := w.put(nil, 0); !bytes.Equal(got, make([]byte, w.size)) {
			t.Errorf("zero of %d bytes: %v", w.size, got)
		}
	}
	if got := octet.Put16(nil, 258); !bytes.Equal(got, []byte{2, 1}) {
		t.Error(got)
	}
}

func TestPutText(t *testing.T) {
	for _, n := range []int{0, 1, 2, 127, 128, 254, 255} {
		for _, front := range [][]byte{nil, {}, {1, 2, 3}} {
			want := slices.Concat(front, []byte{byte(n)}, count(n))
			if got, e := octet.PutText(front, count(n)); !bytes.Equal(got, want) || e != api.OK {
				t.Errorf("text of %d after %v: %v %d", n, front, got, e)
			}
		}
	}
	if got, e := octet.PutText(nil, nil); !bytes.Equal(got, []byte{0}) || e != api.OK {
		t.Error("nil text:", got, e)
	}
	for _, n := range []int{256, 257, 511, 512, 70000} {
		if got, e := octet.PutText([]byte{1}, make([]byte, n)); len(got) != 0 || e != api.ErrLong {
			t.Errorf("text of %d: %v %d", n, got, e)
		}
	}
}

// P1.3

func TestJoin(t *testing.T) {
	cases := []struct {
		l    [][]byte
		want []byte
	}{
		{nil, nil},
		{[][]byte{}, nil},
		{[][]byte{nil}, []byte{0, 0}},
		{[][]byte{[]byte("a"), []byte("")}, []byte{1, 0, 97, 0, 0}},
		{[][]byte{{}, {7, 8}, nil, {9}}, []byte{0, 0, 2, 0, 7, 8, 0, 0, 1, 0, 9}},
		{[][]byte{count(258)}, append([]byte{2, 1}, count(258)...)},
	}
	for _, c := range cases {
		if got, e := octet.Join(c.l); !bytes.Equal(got, c.want) || e != api.OK {
			t.Errorf("%v: %v %d", c.l, got, e)
		}
	}
}

func TestJoinLimits(t *testing.T) {
	most, tooMost := make([]byte, 65535), make([]byte, 65536)
	got, e := octet.Join([][]byte{most, {5}})
	if len(got) != 65540 || got[0] != 255 || got[1] != 255 || got[65539] != 5 || e != api.OK {
		t.Error("longest field:", len(got), e)
	}
	got, e = octet.Join(make([][]byte, 256))
	if !bytes.Equal(got, make([]byte, 512)) || e != api.OK {
		t.Error("most fields:", len(got), e)
	}
	fail := func(l [][]byte, want api.Errno) {
		t.Helper()
		if got, e := octet.Join(l); len(got) != 0 || e != want {
			t.Errorf("%d fields: %d bytes, error %d, want %d", len(l), len(got), e, want)
		}
	}
	fail([][]byte{tooMost}, api.ErrLong)
	fail([][]byte{{1}, {2}, tooMost}, api.ErrLong)
	fail([][]byte{tooMost, {2}}, api.ErrLong)
	fail(make([][]byte, 257), api.ErrMany)
	many := make([][]byte, 257)
	many[0] = tooMost
	fail(many, api.ErrMany)
	fail(many[:256], api.ErrLong)
}

func TestSplit(t *testing.T) {
	cases := []struct {
		b    []byte
		want [][]byte
	}{
		{nil, nil},
		{[]byte{}, nil},
		{[]byte{0, 0}, [][]byte{{}}},
		{[]byte{1, 0, 97, 0, 0}, [][]byte{[]byte("a"), {}}},
		{append([]byte{2, 1}, count(258)...), [][]byte{count(258)}},
	}
	for _, c := range cases {
		if got, e := octet.Split(c.b); !slices.EqualFunc(got, c.want, bytes.Equal) || e != api.OK {
			t.Errorf("%v: %v %d", c.b, got, e)
		}
	}
	got, e := octet.Split(make([]byte, 512))
	if len(got) != 256 || e != api.OK {
		t.Error("most fields:", len(got), e)
	}
}

func TestSplitErrors(t *testing.T) {
	fail := func(b []byte, want api.Errno) {
		t.Helper()
		if got, e := octet.Split(b); len(got) != 0 || e != want {
			t.Errorf("%d bytes: %d fields, error %d, want %d", len(b), len(got), e, want)
		}
	}
	fail([]byte{0}, api.ErrShort)
	fail([]byte{1, 0}, api.ErrShort)
	fail([]byte{0, 1, 5}, api.ErrShort) // the length is 256
	fail([]byte{1, 0, 97, 0}, api.ErrShort)
	fail([]byte{2, 0, 97, 98}[:3], api.ErrShort)
	fail(append(make([]byte, 510), 0), api.ErrShort)       // the 256th length is cut
	fail(append(make([]byte, 510), 3, 0, 1), api.ErrShort) // the 256th field is cut
	full := make([]byte, 512)
	fail(append(full, 0), api.ErrMany)       // half a length
	fail(append(full, 0, 0), api.ErrMany)    // a whole field
	fail(append(full, 9, 0, 1), api.ErrMany) // a part of a field
	fail(make([]byte, 5000), api.ErrMany)
}

// P1.4

// bitsOneByOne is what Bits should return, found bit by bit.
func bitsOneByOne(v uint64, at, n int) uint64 {
	var x uint64
	for i := range n {
		if v&(1<<(at+i)) != 0 {
			x |= 1 << i
		}
	}
	return x
}

func TestBits(t *testing.T) {
	for _, v := range []uint64{0, 0xf5, 0x0123456789abcdef, math.MaxUint64, 1 << 63} {
		for at := range 64 {
			for n := 1; at+n <= 64; n++ {
				if got, e := octet.Bits(v, at, n); got != bitsOneByOne(v, at, n) || e != api.OK {
					t.Fatalf("%#x at %d with %d: %#x %d", v, at, n, got, e)
				}
			}
		}
	}
	if got, e := octet.Bits(0xf5, 4, 4); got != 15 || e != api.OK {
		t.Error(got, e)
	}
}

func TestSetBits(t *testing.T) {
	for _, v := range []uint64{0, 0x0123456789abcdef, math.MaxUint64} {
		for at := range 64 {
			for n := 1; at+n <= 64; n++ {
				most := uint64(math.MaxUint64) >> (64 - n)
				for _, x := range []uint64{0, 1, most, 0x5555555555555555 & most} {
					checkSetBits(t, v, at, n, x)
				}
			}
		}
	}
}

func checkSetBits(t *testing.T, v uint64, at, n int, x uint64) {
	t.Helper()
	got, e := octet.SetBits(v, at, n, x)
	if e != api.OK || bitsOneByOne(got, at, n) != x {
		t.Fatalf("%#x at %d with %d to %#x: %#x %d", v, at, n, x, got, e)
	}
	for i := range 64 {
		if (i < at || i >= at+n) && got>>i&1 != v>>i&1 {
			t.Fatalf("%#x at %d with %d to %#x changes bit %d: %#x", v, at, n, x, i, got)
		}
	}
}

func TestBitsErrors(t *testing.T) {
	places := [][2]int{
		{-1, 1}, {-1, 2}, {0, 0}, {0, -1}, {5, 0}, {63, 0}, {64, 0}, {0, 65}, {1, 64}, {32, 33}, {63, 2}, {64, 1}, {65, 1}, {65, -1},
		{math.MaxInt, 1}, {1, math.MaxInt}, {math.MaxInt, math.MaxInt}, {math.MinInt, 1}, {1, math.MinInt},
		{math.MinInt, math.MinInt}, {math.MinInt, math.MaxInt}, {math.MaxInt, math.MinInt},
	}
	for _, p := range places {
		if got, e := octet.Bits(math.MaxUint64, p[0], p[1]); got != 0 || e != api.ErrArg {
			t.Error("Bits", p, got, e)
		}
		for _, x := range []uint64{0, math.MaxUint64} { // ErrArg is named before ErrLong
			if got, e := octet.SetBits(math.MaxUint64, p[0], p[1], x); got != 0 || e != api.ErrArg {
				t.Error("SetBits", p, x, got, e)
			}
		}
	}
}

func TestSetBitsTooLong(t *testing.T) {
	for n := 1; n < 64; n++ {
		for _, at := range []int{0, 64 - n} {
			for _, x := range []uint64{1 << n, 1<<n + 1, 1 << 63, math.MaxUint64} {
				if got, e := octet.SetBits(0xff, at, n, x); got != 0 || e != api.ErrLong {
					t.Errorf("%#x into %d bits at %d: %#x %d", x, n, at, got, e)
				}
			}
		}
	}
}

// P1.5

// randomFields returns up to 20 byte strings, short ones and long ones.
func randomFields(rng *rand.Rand, most int) [][]byte {
	l := make([][]byte, rng.Intn(20))
	for i := range l {
		l[i] = make([]byte, rng.Intn(most+1)>>rng.Intn(10))
		rng.Read(l[i])
	}
	return l
}

func TestWrittenIsReadBack(t *testing.T) {
	rng := rand.New(rand.NewSource(1))
	for range 300 {
		var b []byte
		var kinds []int // an index into widths, or -1 for a text
		var values []uint64
		texts := randomFields(rng, 255)
		for i, s := range texts {
			kinds = append(kinds, rng.Intn(len(widths)), -1)
			w := widths[kinds[2*i]]
			values = append(values, rng.Uint64()>>(64-8*w.size))
			b = w.put(b, values[i])
			b, _ = octet.PutText(b, s)
		}
		r := api.Reader{Data: b}
		for i, s := range texts {
			v, rest, e := widths[kinds[2*i]].get(r)
			if v != values[i] || e != api.OK {
				t.Fatalf("number %d: %d %d, want %d", i, v, e, values[i])
			}
			text, rest, e := octet.Text(rest)
			if !bytes.Equal(text, s) || e != api.OK {
				t.Fatalf("text %d: %v %d, want %v", i, text, e, s)
			}
			r = rest
		}
		wantError(t, "nothing is left", octet.Done(r), api.OK)
	}
}

// TestReadingStopsWhereItShould reads a text and a number from ever shorter data, and from longer data.
func TestReadingStopsWhereItShould(t *testing.T) {
	read := func(b []byte) ([]byte, uint32, int, api.Errno) {
		s, r, e := octet.Text(api.Reader{Data: b})
		if e != api.OK {
			return nil, 0, 0, e
		}
		v, r, e := octet.U32(r)
		return s, v, r.At, e
	}
	b, _ := octet.PutText(nil, []byte("mesh"))
	b = octet.Put32(b, 0x01020304)
	for _, tail := range [][]byte{nil, {0}, {255, 255}, count(50)} {
		s, v, at, e := read(slices.Concat(b, tail))
		if string(s) != "mesh" || v != 0x01020304 || at != len(b) || e != api.OK {
			t.Errorf("with %v behind: %q %d %d %d", tail, s, v, at, e)
		}
	}
	for n := range b {
		_, _, _, e := read(b[:n])
		wantError(t, "a part of it", e, api.ErrShort)
	}
}

func TestSplitIsTheInverseOfJoin(t *testing.T) {
	rng := rand.New(rand.NewSource(2))
	for range 200 {
		l := randomFields(rng, 3000)
		b, e := octet.Join(l)
		wantError(t, "join", e, api.OK)
		back, e := octet.Split(b)
		if !slices.EqualFunc(back, l, bytes.Equal) || e != api.OK {
			t.Fatalf("%v: %v %d", l, back, e)
		}
	}
	most := slices.Repeat([][]byte{make([]byte, 65535)}, 256)
	b, e := octet.Join(most)
	wantError(t, "join of the most", e, api.OK)
	back, e := octet.Split(b)
	if !slices.EqualFunc(back, most, bytes.Equal) || e != api.OK {
		t.Fatal("split of the most:", len(back), e)
	}
}

func FuzzSplit(f *testing.F) {
	for _, b := range [][]byte{nil, {0}, {0, 0}, {1, 0, 97, 0, 0}, {255, 255, 1}, make([]byte, 513)} {
		f.Add(b)
	}
	f.Fuzz(func(t *testing.T, b []byte) {
		l, e := octet.Split(b)
		if e != api.OK {
			if len(l) != 0 || e != api.ErrShort && e != api.ErrMany {
				t.Fatal(l, e)
			}
			return
		}
		if back, e := octet.Join(l); !bytes.Equal(back, b) || e != api.OK {
			t.Fatal(back, e)
		}
	})
}

// R2

// guarded returns b with the given number of bytes behind its length, and a function that tells whether all of it is unchanged.
func guarded(b []byte, spare int) ([]byte, func() bool) {
	all := append(slices.Clone(b), bytes.Repeat([]byte{0xaa}, spare)...)
	before := slices.Clone(all)
	return all[:len(b)], func() bool { return bytes.Equal(all, before) }
}

func spoil(b []byte) {
	b = b[:cap(b)]
	for i := range b {
		b[i] ^= 0xff
	}
}

func TestWritingSharesNoMemory(t *testing.T) {
	writers := []func(b []byte) []byte{
		func(b []byte) []byte { return octet.Put8(b, 1) },
		func(b []byte) []byte { return octet.Put16(b, 1) },
		func(b []byte) []byte { return octet.Put32(b, 1) },
		func(b []byte) []byte { return octet.Put64(b, 1) },
		func(b []byte) []byte { c, _ := octet.PutText(b, []byte("text")); return c },
		func(b []byte) []byte { c, _ := octet.PutText(b, nil); return c },
		func(b []byte) []byte { c, _ := octet.PutText(nil, b); return c },
		func(b []byte) []byte { c, _ := octet.PutText(b, b); return c },
		func(b []byte) []byte { c, _ := octet.Join([][]byte{b}); return c },
		func(b []byte) []byte { c, _ := octet.Join([][]byte{b, b}); return c },
	}
	for i, write := range writers {
		for _, front := range [][]byte{nil, count(3)} {
			b, same := guarded(front, 30)
			first, second := write(b), write(b)
			kept := slices.Clone(second)
			spoil(first)
			if !same() || !bytes.Equal(second, kept) {
				t.Errorf("writer %d after %d bytes shares memory", i, len(front))
			}
		}
	}
}

func TestReadingSharesNoMemory(t *testing.T) {
	b, same := guarded([]byte{2, 0, 97, 98, 2, 0, 99, 100, 0, 0}, 30)
	taken, r, _ := octet.Take(api.Reader{Data: b}, 4)
	text, _, _ := octet.Text(api.Reader{Data: b})
	empty, _, _ := octet.Take(api.Reader{Data: b}, 0)
	l, _ := octet.Split(b)
	if len(taken) != 4 || len(text) != 2 || len(l) != 3 || r.At != 4 {
		t.Fatal(taken, text, l, r)
	}
	for _, s := range [][]byte{taken, text, empty, l[0], l[2]} {
		spoil(s)
	}
	if !same() || !bytes.Equal(r.Data, b) {
		t.Error("bytes that were read share memory with the argument")
	}
	if string(l[1]) != "cd" {
		t.Error("fields share memory with each other")
	}
}

func TestJoinKeepsItsList(t *testing.T) {
	all := [][]byte{[]byte("a"), []byte("b"), []byte("spare")}
	if _, e := octet.Join(all[:2]); e != api.OK {
		t.Error(e)
	}
	if string(all[0]) != "a" || string(all[1]) != "b" || string(all[2]) != "spare" {
		t.Error(all)
	}
}
