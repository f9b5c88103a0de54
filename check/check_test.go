package check_test

import (
	"bytes"
	"fmt"
	"math"
	"math/big"
	"math/rand"
	"slices"
	"testing"

	"hotspot/api"
	"hotspot/check"
)

// form is one of the two forms of check values.
type form struct {
	name   string
	size   int   // bytes
	terms  []int // exponents of the polynomial
	value  func(b []byte) uint64
	add    func(b []byte) []byte
	verify func(b []byte) ([]byte, api.Errno)
}

var forms = []form{
	{
		"short", 1, []int{8, 6, 5, 0},
		func(b []byte) uint64 { return uint64(check.Crc8(b)) }, check.Append8, check.Verify8,
	},
	{
		"long", 4, []int{32, 27, 21, 14, 9, 4, 1, 0},
		func(b []byte) uint64 { return uint64(check.Crc32(b)) }, check.Append, check.Verify,
	},
}

// most is the register with all bits 1.
func (f form) most() uint64 { return 1<<(8*f.size) - 1 }

// poly is the polynomial without its highest term.
func (f form) poly() uint64 {
	var p uint64
	for _, n := range f.terms[1:] {
		p |= 1 << n
	}
	return p
}

// bitByBit returns the register after the bits of b, as the definition says it.
func (f form) bitByBit(r uint64, b []byte) uint64 {
	for _, c := range b {
		for k := 7; k >= 0; k-- {
			t := uint64(c)>>k&1 + r>>(8*f.size-1)
			r = r << 1 & f.most()
			if t%2 == 1 {
				r ^= f.poly()
			}
		}
	}
	return r
}

// remainder returns the remainder of the polynomial of b, with as many zero bits behind it as a check value has.
func (f form) remainder(b []byte) uint64 {
	n := new(big.Int).Lsh(new(big.Int).SetBytes(b), uint(8*f.size))
	p := new(big.Int).SetUint64(f.poly() | (f.most() + 1))
	for n.BitLen() >= p.BitLen() {
		n.Xor(n, new(big.Int).Lsh(p, uint(n.BitLen()-p.BitLen())))
	}
	return n.Uint64()
}

// valueBytes are the bytes of a check value, the highest one first.
func (f form) valueBytes(v uint64) []byte {
	b := make([]byte, f.size)
	for i := range b {
		b[i] = byte(v >> (8 * (f.size - 1 - i)))
	}
	return b
}

func randomBytes(rng *rand.Rand, n int) []byte {
	b := make([]byte, n)
	rng.Read(b)
	return b
}

// someStrings are strings of all short lengths, of zeros, of ones and of random bytes, and a few long ones.
func someStrings() [][]byte {
	rng := rand.New(rand.NewSource(1))
	l := [][]byte{nil, {}}
	for n := range 40 {
		l = append(l, make([]byte, n), bytes.Repeat([]byte{255}, n), randomBytes(rng, n))
	}
	for c := range 256 {
		l = append(l, []byte{byte(c)})
	}
	return append(l, randomBytes(rng, 255), randomBytes(rng, 256), randomBytes(rng, api.MaxBody), randomBytes(rng, 100000))
}

// flip returns b with the bit at the given place changed; bits are counted as the document orders them.
func flip(b []byte, at ...int) []byte {
	c := bytes.Clone(b)
	for _, i := range at {
		c[i/8] ^= 1 << (7 - i%8)
	}
	return c
}

func wantFound(t *testing.T, f form, what string, damaged []byte) {
	t.Helper()
	if got, e := f.verify(damaged); len(got) != 0 || e != api.ErrCheck {
		t.Fatalf("%s check: %s: %d bytes, error %d", f.name, what, len(got), e)
	}
}

// P3.1

func TestKnownValues(t *testing.T) {
	cases := []struct {
		s     string
		short uint8
		long  uint32
	}{
		{"", 0, 0},
		{"\xff", 0xff, 0xff},
		{"\x00", 0x4e, 0xdf3ffe77},
		{"\x07", 0x08, 0xe7de300e},
		{"a", 0x9d, 0xc367bcf1},
		{"hotspot", 0x85, 0x3cded407},
		{"123456789", 0x6d, 0x15856031},
		{"\x00\x00\x00\x00", 0x96, 0x10ed016a},
		{"\xff\xff\xff\xff", 0xa5, 0xffffffff},
	}
	for _, c := range cases {
		if got := check.Crc8([]byte(c.s)); got != c.short {
			t.Errorf("short check value of %q: %#x, want %#x", c.s, got, c.short)
		}
		if got := check.Crc32([]byte(c.s)); got != c.long {
			t.Errorf("long check value of %q: %#x, want %#x", c.s, got, c.long)
		}
	}
	if check.Crc8(nil) != 0 || check.Crc32(nil) != 0 {
		t.Error("check value of nil is not 0")
	}
}

func TestValuesBitByBit(t *testing.T) {
	for _, f := range forms {
		for _, b := range someStrings() {
			want := f.bitByBit(f.most(), b) ^ f.most()
			if got := f.value(b); got != want {
				t.Errorf("%s check value of %d bytes: %#x, want %#x", f.name, len(b), got, want)
			}
		}
	}
}

// TestValuesAreRemainders also checks that the constant, which the first register and the inversion add, depends on the length only.
func TestValuesAreRemainders(t *testing.T) {
	for _, f := range forms {
		constants := map[int]uint64{}
		for _, b := range someStrings() {
			if len(b) > 3000 {
				continue
			}
			got := f.value(b) ^ f.remainder(b)
			if want, old := constants[len(b)]; old && got != want {
				t.Errorf("%s check value of %d bytes: constant %#x, want %#x", f.name, len(b), got, want)
			}
			constants[len(b)] = got
		}
	}
}

func TestExtend(t *testing.T) {
	f := forms[1]
	rng := rand.New(rand.NewSource(2))
	states := []uint32{0, 1, 0x80000000, 0x08204213, math.MaxUint32, rng.Uint32(), rng.Uint32()}
	for k := range 32 {
		states = append(states, 1<<k)
	}
	for _, state := range states {
		for _, b := range someStrings() {
			if len(b) > 300 {
				continue
			}
			want := f.bitByBit(uint64(state), b)
			if got := check.Extend(state, b); uint64(got) != want {
				t.Errorf("%#x with %v: %#x, want %#x", state, b, got, want)
			}
		}
		if got := check.Extend(state, nil); got != state {
			t.Errorf("%#x with nothing: %#x", state, got)
		}
	}
	if got := check.Extend(0, make([]byte, 1000)); got != 0 {
		t.Errorf("zero with zeros: %#x", got)
	}
}

func TestFinal(t *testing.T) {
	cases := []struct{ state, want uint32 }{
		{0, math.MaxUint32},
		{math.MaxUint32, 0},
		{1, 0xfffffffe},
		{0x80000000, 0x7fffffff},
		{0x12345678, 0xedcba987},
	}
	for _, c := range cases {
		if got := check.Final(c.state); got != c.want {
			t.Errorf("%#x: %#x, want %#x", c.state, got, c.want)
		}
	}
}

// P3.2

func TestAppend(t *testing.T) {
	if got := check.Append([]byte("hotspot")); string(got) != "hotspot\x3c\xde\xd4\x07" {
		t.Errorf("long check: %q", got)
	}
	if got := check.Append8([]byte("hotspot")); string(got) != "hotspot\x85" {
		t.Errorf("short check: %q", got)
	}
	for _, f := range forms {
		for _, b := range someStrings() {
			want := slices.Concat(b, f.valueBytes(f.bitByBit(f.most(), b)^f.most()))
			if got := f.add(b); !bytes.Equal(got, want) {
				t.Errorf("%s check of %d bytes: %v", f.name, len(b), got)
			}
		}
	}
}

func TestVerify(t *testing.T) {
	if got, e := check.Verify(check.Append([]byte{7})); !bytes.Equal(got, []byte{7}) || e != api.OK {
		t.Error("the document's example:", got, e)
	}
	for _, f := range forms {
		for _, b := range someStrings() {
			if got, e := f.verify(f.add(b)); !bytes.Equal(got, b) || e != api.OK {
				t.Errorf("%s check of %d bytes: %d bytes, error %d", f.name, len(b), len(got), e)
			}
		}
	}
}

func TestVerifyOfChecksAlone(t *testing.T) {
	for _, f := range forms {
		empty := make([]byte, f.size) // the check value of no bytes is 0
		if got, e := f.verify(empty); len(got) != 0 || e != api.OK {
			t.Errorf("%s check: %v %d", f.name, got, e)
		}
		for i := range 8 * f.size {
			wantFound(t, f, "no bytes with another check", flip(empty, i))
		}
	}
}

func TestVerifyTooShort(t *testing.T) {
	for _, f := range forms {
		checked := f.add([]byte("frame")) // bytes behind the length do not count
		for n := range f.size {
			for _, b := range [][]byte{make([]byte, n), bytes.Repeat([]byte{255}, n), checked[:n]} {
				if got, e := f.verify(b); len(got) != 0 || e != api.ErrShort {
					t.Errorf("%s check in %v: %v %d", f.name, b, got, e)
				}
			}
		}
		if got, e := f.verify(nil); len(got) != 0 || e != api.ErrShort {
			t.Errorf("%s check in nil: %v %d", f.name, got, e)
		}
	}
}

func TestVerifyOfOtherValues(t *testing.T) {
	b := []byte("frame")
	for _, f := range forms {
		v := f.value(b)
		for _, other := range []uint64{v ^ f.most(), v + 1, v - 1, 0, f.most(), f.remainder(b)} {
			wantFound(t, f, fmt.Sprintf("value %#x", other), slices.Concat(b, f.valueBytes(other)))
		}
		checked := f.add(b)
		wantFound(t, f, "the last byte is lost", checked[:len(checked)-1])
		wantFound(t, f, "the first byte is lost", checked[1:])
		wantFound(t, f, "a byte more", append(bytes.Clone(checked), 0x31))
	}
	v := forms[1].valueBytes(forms[1].value(b))
	slices.Reverse(v)
	wantFound(t, forms[1], "the lowest byte first", slices.Concat(b, v))
}

func TestVerifyOfAllShortChecks(t *testing.T) {
	for c := range 256 {
		for v := range 256 {
			got, e := check.Verify8([]byte{byte(c), byte(v)})
			if byte(v) == check.Crc8([]byte{byte(c)}) {
				if e != api.OK || !bytes.Equal(got, []byte{byte(c)}) {
					t.Errorf("%d with %d: %v %d", c, v, got, e)
				}
			} else if e != api.ErrCheck || len(got) != 0 {
				t.Errorf("%d with %d: %v %d", c, v, got, e)
			}
		}
	}
}

// P3.3

// changed returns b with a change of the bits from at on: the bits of pattern, the lowest one first.
func changed(b []byte, at int, pattern uint64) []byte {
	var bits []int
	for i := range 64 {
		if pattern>>i&1 == 1 {
			bits = append(bits, at+i)
		}
	}
	return flip(b, bits...)
}

func TestSmallBurstsAreFound(t *testing.T) {
	rng := rand.New(rand.NewSource(3))
	for _, f := range forms {
		for _, n := range []int{0, 1, 2, 9} {
			checked := f.add(randomBytes(rng, n))
			for at := range 8 * len(checked) {
				for width := 1; width <= 8 && at+width <= 8*len(checked); width++ {
					for pattern := uint64(1); pattern < 1<<width; pattern++ {
						wantFound(t, f, fmt.Sprintf("pattern %#x at %d", pattern, at), changed(checked, at, pattern))
					}
				}
			}
		}
	}
}

func TestLongBurstsAreFound(t *testing.T) {
	rng := rand.New(rand.NewSource(4))
	f := forms[1]
	for _, n := range []int{0, 1, 5, 60, api.MaxBody} {
		checked := f.add(randomBytes(rng, n))
		for range 3000 {
			pattern := uint64(rng.Uint32()) | 1
			if rng.Intn(2) == 0 {
				pattern |= 1 << 31
			}
			at := rng.Intn(8*len(checked) - 31)
			if rng.Intn(4) == 0 {
				at = 8*len(checked) - 32 // the check value itself
			}
			wantFound(t, f, fmt.Sprintf("pattern %#x at %d", pattern, at), changed(checked, at, pattern))
		}
		for _, pattern := range []uint64{1<<32 - 1, 1<<31 | 1, 1 << 31, 0x8421084210842108 & (1<<32 - 1)} {
			for at := range min(8*len(checked)-31, 500) {
				wantFound(t, f, fmt.Sprintf("pattern %#x at %d", pattern, at), changed(checked, at, pattern))
			}
		}
	}
}

// TestPolynomialIsNotFound shows that the bound of the bursts is exact: the polynomial itself has one bit more.
func TestPolynomialIsNotFound(t *testing.T) {
	for _, f := range forms {
		b := []byte("some frame")
		checked := f.add(b)
		for at := range 8*len(b) - 1 {
			damaged := bytes.Clone(checked)
			for _, n := range f.terms {
				damaged = flip(damaged, at+f.terms[0]-n)
			}
			got, e := f.verify(damaged)
			if e != api.OK || !bytes.Equal(got, damaged[:len(b)]) {
				t.Errorf("%s check at %d: %v %d", f.name, at, got, e)
			}
		}
	}
}

func TestOddChangesAreFound(t *testing.T) {
	rng := rand.New(rand.NewSource(5))
	for _, f := range forms {
		for _, n := range []int{1, 7, 100} {
			checked := f.add(randomBytes(rng, n))
			size := 8 * len(checked)
			for range 3000 {
				count := 1 + 2*rng.Intn(size/2)
				bits := rng.Perm(size)[:count]
				wantFound(t, f, fmt.Sprintf("%d bits", count), flip(checked, bits...))
			}
		}
	}
}

func TestTripleChangesAreFound(t *testing.T) {
	for _, f := range forms {
		checked := f.add([]byte("abc"))
		size := 8 * len(checked)
		for i := range size {
			for j := range i {
				for k := range j {
					wantFound(t, f, fmt.Sprint("bits ", i, j, k), flip(checked, i, j, k))
				}
			}
		}
	}
}

func TestValueIsComputedPartByPart(t *testing.T) {
	rng := rand.New(rand.NewSource(6))
	b := randomBytes(rng, 50)
	want := check.Crc32(b)
	for i := range len(b) + 1 {
		for j := range i + 1 {
			state := uint32(math.MaxUint32)
			for _, part := range [][]byte{b[:j], b[j:i], b[i:]} {
				state = check.Extend(state, part)
			}
			if got := check.Final(state); got != want {
				t.Errorf("parts at %d and %d: %#x, want %#x", j, i, got, want)
			}
		}
	}
	state := uint32(math.MaxUint32)
	for i := range b {
		state = check.Extend(state, b[i:i+1])
		if got := check.Final(state); got != check.Crc32(b[:i+1]) {
			t.Errorf("byte by byte to %d: %#x", i, got)
		}
	}
}

func TestExclusiveOrOfThree(t *testing.T) {
	rng := rand.New(rand.NewSource(7))
	for _, f := range forms {
		for n := range 300 {
			a, b, c := randomBytes(rng, n), randomBytes(rng, n), randomBytes(rng, n)
			all := make([]byte, n)
			for i := range all {
				all[i] = a[i] ^ b[i] ^ c[i]
			}
			if got, want := f.value(all), f.value(a)^f.value(b)^f.value(c); got != want {
				t.Errorf("%s check of %d bytes: %#x, want %#x", f.name, n, got, want)
			}
		}
	}
}

func FuzzVerify(f *testing.F) {
	for _, b := range [][]byte{nil, {0}, {0, 0, 0, 0}, {255, 255}, []byte("hotspot\x3c\xde\xd4\x07"), []byte("hotspot\x85")} {
		f.Add(b)
	}
	f.Fuzz(func(t *testing.T, b []byte) {
		for _, x := range forms {
			if got, e := x.verify(x.add(b)); !bytes.Equal(got, b) || e != api.OK {
				t.Fatal("with a check:", got, e)
			}
			got, e := x.verify(b)
			switch {
			case len(b) < x.size:
				if len(got) != 0 || e != api.ErrShort {
					t.Fatal("short:", got, e)
				}
			case x.bitByBit(x.most(), b[:len(b)-x.size])^x.most() == new(big.Int).SetBytes(b[len(b)-x.size:]).Uint64():
				if !bytes.Equal(got, b[:len(b)-x.size]) || e != api.OK {
					t.Fatal("good:", got, e)
				}
			default:
				if len(got) != 0 || e != api.ErrCheck {
					t.Fatal("damaged:", got, e)
				}
			}
		}
	})
}

// R2

// guarded returns b with bytes behind its length, and a function that tells whether all of it is unchanged.
func guarded(b []byte) ([]byte, func() bool) {
	all := append(bytes.Clone(b), bytes.Repeat([]byte{0xaa}, 30)...)
	before := bytes.Clone(all)
	return all[:len(b)], func() bool { return bytes.Equal(all, before) }
}

func spoil(b []byte) {
	b = b[:cap(b)]
	for i := range b {
		b[i] ^= 0xff
	}
}

func TestResultsShareNoMemory(t *testing.T) {
	for _, f := range forms {
		for _, s := range [][]byte{nil, {}, {1}, []byte("frame")} {
			calls := map[string]struct {
				b    []byte
				call func(b []byte) []byte
			}{
				"append": {s, f.add},
				"verify": {f.add(s), func(b []byte) []byte { c, _ := f.verify(b); return c }},
			}
			for what, c := range calls {
				b, same := guarded(c.b)
				first, second := c.call(b), c.call(b)
				kept := bytes.Clone(second)
				spoil(first)
				if !same() || !bytes.Equal(second, kept) {
					t.Errorf("%s with the %s check of %d bytes shares memory", what, f.name, len(s))
				}
			}
		}
	}
}

func TestArgumentsAreOnlyRead(t *testing.T) {
	for _, s := range someStrings() {
		for _, f := range forms {
			for _, c := range [][]byte{s, f.add(s)} {
				b, same := guarded(c)
				f.value(b)
				f.add(b)
				f.verify(b)
				check.Extend(5, b)
				if !same() {
					t.Errorf("%d bytes were changed by the functions of the %s check", len(c), f.name)
				}
			}
		}
	}
}
