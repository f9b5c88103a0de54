package aggregate_test

import (
	"bytes"
	"fmt"
	"math/rand"
	"slices"
	"testing"

	"hotspot/aggregate"
	"hotspot/api"
	"hotspot/check"
	"hotspot/header"
)

type packet = api.Packet

// The definitions, as the chapter says them. The short check value is asked of layer 3.

// filled returns an entry with zero bytes until its length is a multiple of 4.
func filled(entry []byte) []byte {
	entry = slices.Clone(entry)
	for len(entry)%4 != 0 {
		entry = append(entry, 0)
	}
	return entry
}

// concatenated returns entries of which all but the last one are filled.
func concatenated(entries [][]byte) []byte {
	last := len(entries) - 1
	var b []byte
	for _, entry := range entries[:last] {
		b = append(b, filled(entry)...)
	}
	return append(b, entries[last]...)
}

func packetEntry(p packet) []byte {
	length := []byte{byte(len(p.Data) % 256), byte(len(p.Data) / 256)}
	return slices.Concat(p.To[:], p.From[:], length, p.Data)
}

func delimiter(length int) []byte {
	b := []byte{byte(length % 256), byte(length / 256)}
	return append(b, check.Crc8(b), 78)
}

func pieceEntry(piece []byte) []byte { return append(delimiter(len(piece)), piece...) }

// packed returns what Pack has to return.
func packed(l []packet) ([]byte, api.Errno) {
	switch {
	case len(l) == 0:
		return nil, api.ErrNone
	case len(l) > 32:
		return nil, api.ErrMany
	}
	var entries [][]byte
	for _, p := range l {
		switch {
		case p.From[0]%2 == 1:
			return nil, api.ErrBad
		case len(p.Data) > 1500:
			return nil, api.ErrLong
		}
		entries = append(entries, packetEntry(p))
	}
	b := concatenated(entries)
	if len(b) > 2304 {
		return nil, api.ErrLong
	}
	return b, api.OK
}

// joined returns what Join has to return.
func joined(l [][]byte) ([]byte, api.Errno) {
	switch {
	case len(l) == 0:
		return nil, api.ErrNone
	case len(l) > 64:
		return nil, api.ErrMany
	}
	var entries [][]byte
	for _, piece := range l {
		switch {
		case len(piece) == 0:
			return nil, api.ErrBad
		case len(piece) > 2400:
			return nil, api.ErrLong
		}
		entries = append(entries, pieceEntry(piece))
	}
	b := concatenated(entries)
	if len(b) > 65535 {
		return nil, api.ErrLong
	}
	return b, api.OK
}

// unpacked returns what Unpack has to return; before is how many packets were read already.
func unpacked(b []byte, before int) ([]packet, api.Errno) {
	switch {
	case len(b) > 2304:
		return nil, api.ErrLong
	case before == 32:
		return nil, api.ErrMany
	case len(b) < 14:
		return nil, api.ErrShort
	case b[6]%2 == 1:
		return nil, api.ErrForm
	}
	end := 14 + int(b[12]) + 256*int(b[13])
	switch {
	case end > 14+1500:
		return nil, api.ErrLong
	case end > len(b):
		return nil, api.ErrShort
	}
	p := packet{To: [6]byte(b[0:6]), From: [6]byte(b[6:12]), Data: b[14:end]}
	if end == len(b) {
		return []packet{p}, api.OK
	}
	entry := filled(b[:end])
	if len(b) < len(entry) {
		return nil, api.ErrShort
	}
	if !bytes.HasPrefix(b, entry) || len(b) == len(entry) {
		return nil, api.ErrForm
	}
	l, e := unpacked(b[len(entry):], before+1)
	if e != api.OK {
		return nil, e
	}
	return append([]packet{p}, l...), api.OK
}

// delimiters has the lengths of the pieces by their delimiters.
var delimiters = func() map[string]int {
	m := map[string]int{}
	for length := 1; length <= 2400; length++ {
		m[string(delimiter(length))] = length
	}
	return m
}()

// delimited returns the end of the piece behind the delimiter at a position, and whether there is one.
func delimited(b []byte, at int) (int, bool) {
	if at+4 > len(b) {
		return 0, false
	}
	length, found := delimiters[string(b[at:at+4])]
	return at + 4 + length, found && at+4+length <= len(b)
}

// scanned returns what Scan has to return.
func scanned(b []byte) (pieces [][]byte, skipped int) {
	at := 0
	for at <= len(b) && len(b)-at >= 4 {
		end, found := delimited(b, at)
		if !found {
			skipped++
			at += 4
			continue
		}
		pieces = append(pieces, b[at+4:end])
		for at = end; at%4 != 0; {
			at++
		}
	}
	return pieces, skipped
}

// Comparing, and what the tests expect.

func equal(l, m []packet) bool {
	return slices.EqualFunc(l, m, func(p, q packet) bool {
		return p.To == q.To && p.From == q.From && string(p.Data) == string(q.Data)
	})
}

func equalPieces(l, m [][]byte) bool { return slices.EqualFunc(l, m, bytes.Equal) }

func lengths[T any](l []T, length func(T) int) string {
	s := fmt.Sprint(len(l), " of the lengths")
	for _, x := range l[:min(len(l), 100)] {
		s += fmt.Sprint(" ", length(x))
	}
	return s
}

// brief returns the first bytes of a string that may be long.
func brief(b []byte) string { return fmt.Sprintf("%d bytes %d", len(b), b[:min(len(b), 100)]) }

func show(l []packet) string { return lengths(l, func(p packet) int { return len(p.Data) }) }

func showPieces(l [][]byte) string { return lengths(l, func(b []byte) int { return len(b) }) }

// wantPack returns the packed form, after it was compared with the definition and unpacked again.
func wantPack(t *testing.T, what string, l []packet, wantE api.Errno) []byte {
	t.Helper()
	b, e := aggregate.Pack(l)
	want, definedE := packed(l)
	if e != wantE || definedE != wantE || !bytes.Equal(b, want) {
		t.Fatalf("%s: %s: %d bytes, error %d, want %d bytes, error %d", what, show(l), len(b), e, len(want), wantE)
	}
	if e != api.OK {
		return nil
	}
	if m, e := aggregate.Unpack(b); e != api.OK || !equal(m, l) {
		t.Fatalf("%s: %s: unpacked: %s, error %d", what, show(l), show(m), e)
	}
	return b
}

// wantUnpack compares with the definition, and packs again what was unpacked.
func wantUnpack(t *testing.T, what string, b []byte) api.Errno {
	t.Helper()
	l, e := aggregate.Unpack(b)
	if want, wantE := unpacked(b, 0); e != wantE || !equal(l, want) {
		t.Fatalf("%s: %s: %s, error %d, want %s, error %d", what, brief(b), show(l), e, show(want), wantE)
	}
	if e != api.OK {
		return e
	}
	if again, e := aggregate.Pack(l); e != api.OK || !bytes.Equal(again, b) {
		t.Fatalf("%s: %s: packed again: %s, error %d", what, brief(b), brief(again), e)
	}
	return e
}

func wantUnpackError(t *testing.T, what string, b []byte, want api.Errno) {
	t.Helper()
	if e := wantUnpack(t, what, b); e != want {
		t.Errorf("%s: %s: error %d, want %d", what, brief(b), e, want)
	}
}

// wantJoin returns the joined form, after it was compared with the definition and scanned.
func wantJoin(t *testing.T, what string, l [][]byte, wantE api.Errno) []byte {
	t.Helper()
	b, e := aggregate.Join(l)
	want, definedE := joined(l)
	if e != wantE || definedE != wantE || !bytes.Equal(b, want) {
		t.Fatalf("%s: %s: %d bytes, error %d, want %d bytes, error %d", what, showPieces(l), len(b), e, len(want), wantE)
	}
	if e != api.OK {
		return nil
	}
	if m, skipped := aggregate.Scan(b); !equalPieces(m, l) || skipped != 0 {
		t.Fatalf("%s: %s: scanned: %s, %d skipped", what, showPieces(l), showPieces(m), skipped)
	}
	return b
}

// wantScan returns what Scan returns, after it was compared with the definition.
func wantScan(t *testing.T, what string, b []byte) ([][]byte, int) {
	t.Helper()
	l, skipped := aggregate.Scan(b)
	if want, wantSkipped := scanned(b); !equalPieces(l, want) || skipped != wantSkipped {
		t.Fatalf("%s: %s: %s, %d skipped, want %s, %d skipped", what, brief(b), showPieces(l), skipped, showPieces(want), wantSkipped)
	}
	return l, skipped
}

// wantFound expects the pieces and the number of skipped positions that are named.
func wantFound(t *testing.T, what string, b []byte, want [][]byte, wantSkipped int) {
	t.Helper()
	if l, skipped := wantScan(t, what, b); !equalPieces(l, want) || skipped != wantSkipped {
		t.Errorf("%s: %s: %s, %d skipped, want %s, %d skipped", what, brief(b), showPieces(l), skipped, showPieces(want), wantSkipped)
	}
}

// wantSeen expects that each error was seen often enough for a test to mean something.
func wantSeen(t *testing.T, seen map[api.Errno]int, least int, errors ...api.Errno) {
	t.Helper()
	for _, e := range errors {
		if seen[e] < least {
			t.Errorf("the error %d was seen %d times only", e, seen[e])
		}
	}
}

// What the tests pack and join.

var (
	near  = api.Addr{2, 0, 0, 0, 0, 1}
	far   = api.Addr{2, 0, 0, 0, 0, 2}
	group = api.Addr{1}
	all   = api.Addr{255, 255, 255, 255, 255, 255}
)

// counted returns n bytes of which none is 0, so that none is like a byte that fills.
func counted(n int) []byte {
	b := make([]byte, n)
	for i := range b {
		b[i] = byte(1 + i%255)
	}
	return b
}

// packets returns packets with the lengths of Data, all of which have other addresses.
func packets(lengths ...int) []packet {
	var l []packet
	for i, n := range lengths {
		l = append(l, packet{To: api.Addr{byte(i), 1, 2, 3, 4, 5}, From: api.Addr{byte(2 * i), 6, 7, 8, 9, 10}, Data: counted(n)})
	}
	return l
}

// pieces returns pieces with the lengths, of which none begins like another one.
func pieces(lengths ...int) [][]byte {
	var l [][]byte
	for i, n := range lengths {
		b := counted(n)
		if n > 0 {
			b[0] = byte(100 + i)
		}
		l = append(l, b)
	}
	return l
}

func random(rng *rand.Rand, n int) []byte {
	b := make([]byte, n)
	rng.Read(b)
	return b
}

// randomPackets returns packets most of which can be packed, with short Data more often than not.
func randomPackets(rng *rand.Rand) []packet {
	longest := []int{1, 4, 20, 200, 1501}[rng.Intn(5)]
	l := packets(make([]int, rng.Intn(34))...)
	for i := range l {
		rng.Read(l[i].To[:])
		rng.Read(l[i].From[:])
		if rng.Intn(200) > 0 {
			l[i].From[0] &= 254
		}
		l[i].Data = random(rng, rng.Intn(longest+1))
	}
	return l
}

func randomPieces(rng *rand.Rand) [][]byte {
	longest := []int{1, 4, 20, 200, 2401}[rng.Intn(5)]
	l := make([][]byte, rng.Intn(66))
	for i := range l {
		l[i] = random(rng, 1+rng.Intn(longest))
	}
	return l
}

// P8.1

func TestExample(t *testing.T) {
	p := packet{To: near, From: far, Data: []byte{9}}
	entry := []byte{2, 0, 0, 0, 0, 1, 2, 0, 0, 0, 0, 2, 1, 0, 9}
	if b := wantPack(t, "alone", []packet{p}, api.OK); !bytes.Equal(b, entry) {
		t.Error(b)
	}
	if b := wantPack(t, "before another one", []packet{p, p}, api.OK); !bytes.Equal(b, slices.Concat(entry, []byte{0}, entry)) {
		t.Error(b)
	}
	c, d := check.Crc8([]byte{1, 0}), check.Crc8([]byte{2, 0})
	want := []byte{1, 0, c, 78, 7, 0, 0, 0, 2, 0, d, 78, 8, 9}
	if b := wantJoin(t, "pieces", [][]byte{{7}, {8, 9}}, api.OK); !bytes.Equal(b, want) {
		t.Error(b)
	}
	wantFound(t, "pieces", want, [][]byte{{7}, {8, 9}}, 0)
}

func TestPackAllLengths(t *testing.T) {
	for n := range 1510 {
		want := api.OK
		if n > 1500 {
			want = api.ErrLong
		}
		b := wantPack(t, "alone", packets(n), want)
		if want == api.OK && len(b) != 14+n {
			t.Errorf("%d bytes of Data: %d bytes", n, len(b))
		}
		wantPack(t, "first", packets(n, 3), want)
		wantPack(t, "last", packets(3, n), want)
		wantPack(t, "in the middle", packets(2, n, 0), want)
	}
	for n := range 700 {
		wantPack(t, "three alike", packets(n, n, n), api.OK)
	}
	b := wantPack(t, "a length of two bytes", packets(1025), api.OK)
	if b[12] != 1 || b[13] != 4 {
		t.Error(b[:14])
	}
}

func TestPackAllNumbers(t *testing.T) {
	for n := range 40 {
		want := api.OK
		switch {
		case n == 0:
			want = api.ErrNone
		case n > 32:
			want = api.ErrMany
		}
		for size := range 10 {
			wantPack(t, "alike", packets(slices.Repeat([]int{size}, n)...), want)
		}
	}
	wantPack(t, "32 of the longest for their number", packets(slices.Repeat([]int{58}, 32)...), api.OK)
	wantPack(t, "too long", packets(slices.Repeat([]int{59}, 32)...), api.ErrLong)
}

// TestPackFilling has all lengths, modulo 4, of three entries.
func TestPackFilling(t *testing.T) {
	for i := range 64 {
		x, y, z := i%4, i/4%4, i/16
		b := wantPack(t, "filled", packets(x, y, z), api.OK)
		if want := (14+x+3)/4*4 + (14+y+3)/4*4 + 14 + z; len(b) != want {
			t.Errorf("%d %d %d: %d bytes, want %d", x, y, z, len(b), want)
		}
	}
}

func TestPackGroups(t *testing.T) {
	for first := range 256 {
		want := api.OK
		if first%2 == 1 {
			want = api.ErrBad
		}
		for i := range 3 {
			l := packets(1, 2, 3)
			l[i].From[0] = byte(first)
			wantPack(t, "From", l, want)
			l = packets(1, 2, 3)
			l[i].To[0] = byte(first)
			wantPack(t, "To", l, api.OK)
		}
	}
	l := packets(1, 2, 3)
	l[1].From = all
	wantPack(t, "from all", l, api.ErrBad)
	l[1].From, l[1].To = far, all
	wantPack(t, "to all", l, api.OK)
	wantPack(t, "no addresses", []packet{{}}, api.OK)
}

// TestPackBound has forms about as long as the longest body, in which the last entry ends at any position.
func TestPackBound(t *testing.T) {
	for first := 850; first < 950; first++ {
		before := (14 + first + 3) / 4 * 4
		for end := 2290; end < 2320; end++ {
			want := api.OK
			if end > 2304 {
				want = api.ErrLong
			}
			b := wantPack(t, "two", packets(first, end-before-14), want)
			if want == api.OK && len(b) != end {
				t.Errorf("%d bytes, want %d", len(b), end)
			}
		}
	}
	wantPack(t, "an entry that is not filled ends in time", packets(1500, 770, 0), api.ErrLong)
	wantPack(t, "an entry that is not filled ends in time", packets(1500, 772), api.OK)
	wantPack(t, "twice the longest", packets(1500, 1500), api.ErrLong)
	wantPack(t, "32 of the longest", packets(slices.Repeat([]int{1500}, 32)...), api.ErrLong)
}

func TestOrderOfPack(t *testing.T) {
	bad := func(l []packet, where ...int) []packet {
		for _, i := range where {
			l[i].From = group
		}
		return l
	}
	many := packets(make([]int, 33)...)
	wantPack(t, "many before bad", bad(many, 0), api.ErrMany)
	many = packets(make([]int, 33)...)
	many[0].Data = counted(1501)
	wantPack(t, "many before long", many, api.ErrMany)
	wantPack(t, "bad before long in one packet", bad(packets(1501), 0), api.ErrBad)
	wantPack(t, "bad before long in the last packet", bad(packets(3, 1501), 1), api.ErrBad)
	wantPack(t, "the first one is bad", bad(packets(3, 1501), 0), api.ErrBad)
	wantPack(t, "the first one is long", bad(packets(1501, 3), 1), api.ErrLong)
	wantPack(t, "all are bad and long", bad(packets(1501, 1501), 0, 1), api.ErrBad)
	wantPack(t, "bad before a long form", bad(packets(1500, 1500, 3), 2), api.ErrBad)
	wantPack(t, "bad alone", bad(packets(0), 0), api.ErrBad)
}

func TestPackAnything(t *testing.T) {
	rng := rand.New(rand.NewSource(1))
	seen := map[api.Errno]int{}
	for range 20000 {
		l := randomPackets(rng)
		_, e := packed(l)
		seen[e]++
		wantPack(t, "anything", l, e)
	}
	wantSeen(t, seen, 100, api.OK, api.ErrNone, api.ErrMany, api.ErrBad, api.ErrLong)
}

// P8.2

func TestUnpackAllCuts(t *testing.T) {
	rng := rand.New(rand.NewSource(2))
	for range 300 {
		b, e := packed(randomPackets(rng))
		for n := range b {
			wantUnpack(t, "cut", b[:n])
		}
		if e == api.OK {
			for _, more := range [][]byte{{0}, {1}, {0, 0}, {0, 0, 0}, {0, 0, 0, 0}, {0, 0, 0, 0, 0}, make([]byte, 17)} {
				wantUnpack(t, "longer", slices.Concat(b, more))
			}
		}
	}
}

func TestUnpackAllDamages(t *testing.T) {
	for _, l := range [][]packet{packets(0), packets(1, 2), packets(3, 0, 1, 4)} {
		b, _ := packed(l)
		for i := range b {
			for change := 1; change < 256; change++ {
				damaged := slices.Clone(b)
				damaged[i] ^= byte(change)
				wantUnpack(t, "damaged", damaged)
			}
		}
	}
}

func TestUnpackLong(t *testing.T) {
	longest := wantPack(t, "the longest", packets(1500, 774), api.OK)
	wantUnpackError(t, "the longest", longest, api.OK)
	longer, _ := packed(packets(1500))
	longer = append(filled(longer), packetEntry(packet{Data: counted(775)})...)
	if len(longest) != 2304 || len(longer) != 2305 {
		t.Fatal(len(longest), len(longer))
	}
	wantUnpackError(t, "one byte more", longer, api.ErrLong)
	for _, n := range []int{2305, 2306, 2400, 65536, 1 << 26} {
		wantUnpackError(t, "long before form", bytes.Repeat([]byte{255}, n), api.ErrLong)
		wantUnpackError(t, "zeros", make([]byte, n), api.ErrLong)
	}
	for n := 2290; n <= 2304; n++ {
		wantUnpackError(t, "a group", bytes.Repeat([]byte{255}, n), api.ErrForm)
	}
}

func TestUnpackMany(t *testing.T) {
	b := wantPack(t, "32", packets(make([]int, 32)...), api.OK)
	wantUnpackError(t, "32", b, api.OK)
	b = filled(b)
	wantUnpackError(t, "32 and nothing behind the zero bytes", b, api.ErrForm)
	for _, more := range [][]byte{{0}, {1}, {255}, make([]byte, 14), bytes.Repeat([]byte{255}, 14), bytes.Repeat([]byte{254}, 14), make([]byte, 400)} {
		wantUnpackError(t, "33", slices.Concat(b, more), api.ErrMany)
	}
	for i := len(b) - 2; i < len(b); i++ {
		damaged := append(slices.Clone(b), 0)
		damaged[i] = 1
		wantUnpackError(t, "form before many", damaged, api.ErrForm)
	}
	b = wantPack(t, "32 that need no zero bytes", packets(slices.Repeat([]int{2}, 32)...), api.OK)
	wantUnpackError(t, "33", append(b, 0), api.ErrMany)
	b = wantPack(t, "31", packets(make([]int, 31)...), api.OK)
	wantUnpackError(t, "32 without the last one", append(filled(b), 0), api.ErrShort)
	wantUnpackError(t, "zeros only", make([]byte, 16*32), api.ErrForm)
	wantUnpackError(t, "zeros only", make([]byte, 16*32-2), api.OK)
	wantUnpackError(t, "zeros only", make([]byte, 16*32+1), api.ErrMany)
}

// TestUnpackEntry has the errors of an entry, alone and behind others.
func TestUnpackEntry(t *testing.T) {
	entry := func(from byte, length int, data int) []byte {
		b := packetEntry(packet{To: all, From: api.Addr{from}, Data: counted(data)})
		b[12], b[13] = byte(length), byte(length>>8)
		return b
	}
	cases := []struct {
		what  string
		entry []byte
		want  api.Errno
	}{
		{"nothing", nil, api.ErrShort},
		{"one byte", []byte{2}, api.ErrShort},
		{"one byte of a group", []byte{1}, api.ErrShort},
		{"13 bytes", entry(2, 0, 0)[:13], api.ErrShort},
		{"short before a group", entry(1, 0, 0)[:13], api.ErrShort},
		{"short before a long one", entry(2, 1501, 0)[:13], api.ErrShort},
		{"no Data", entry(2, 0, 0), api.OK},
		{"a group", entry(1, 0, 0), api.ErrForm},
		{"a group before a long one", entry(1, 1501, 0), api.ErrForm},
		{"a group before Data that is short", entry(1, 3, 2), api.ErrForm},
		{"a long one", entry(2, 1501, 1501), api.ErrLong},
		{"the longest", entry(2, 1500, 1500), api.OK},
		{"long before short", entry(2, 1501, 1500), api.ErrLong},
		{"long before short", entry(2, 1501, 0), api.ErrLong},
		{"the greatest length", entry(2, 65535, 0), api.ErrLong},
		{"a great length", entry(2, 1<<15, 0), api.ErrLong},
		{"no byte of Data", entry(2, 1, 0), api.ErrShort},
		{"Data that is short", entry(2, 3, 2), api.ErrShort},
		{"the longest that is short", entry(2, 1500, 700), api.ErrShort},
		{"256 bytes", entry(2, 256, 256), api.OK},
		{"256 bytes that are short", entry(2, 256, 255), api.ErrShort},
	}
	for _, x := range cases {
		wantUnpackError(t, x.what, x.entry, x.want)
		for _, before := range [][]packet{packets(0), packets(1), packets(2), packets(3), packets(make([]int, 31)...)} {
			if len(x.entry) == 0 {
				continue
			}
			b, _ := packed(before)
			wantUnpackError(t, x.what+" behind others", append(filled(b), x.entry...), x.want)
		}
	}
}

// TestUnpackZeros has all that may be in the place of the zero bytes behind an entry.
func TestUnpackZeros(t *testing.T) {
	next := packetEntry(packets(5)[0])
	for n := range 8 {
		entry := packetEntry(packets(n)[0])
		zeros := len(filled(entry)) - len(entry)
		for left := 1; left < zeros; left++ {
			wantUnpackError(t, "fewer", append(slices.Clone(entry), make([]byte, left)...), api.ErrShort)
			wantUnpackError(t, "fewer that are not zero", append(slices.Clone(entry), counted(left)...), api.ErrShort)
		}
		b := slices.Concat(filled(entry), next)
		wantUnpackError(t, "zeros", b, api.OK)
		for i := range zeros {
			damaged := slices.Clone(b)
			damaged[len(entry)+i] = 128
			wantUnpackError(t, "not zero", damaged, api.ErrForm)
			wantUnpackError(t, "form before short", damaged[:len(entry)+zeros+1], api.ErrForm)
			wantUnpackError(t, "not zero, and nothing behind", damaged[:len(entry)+zeros], api.ErrForm)
		}
		if zeros > 0 {
			wantUnpackError(t, "nothing behind", filled(entry), api.ErrForm)
		} else {
			wantUnpackError(t, "nothing missing", entry, api.OK)
		}
		for short := 1; short < 14; short++ {
			wantUnpackError(t, "a part of another one", b[:len(entry)+zeros+short], api.ErrShort)
		}
	}
}

func TestUnpackAnything(t *testing.T) {
	rng := rand.New(rand.NewSource(3))
	seen := map[api.Errno]int{}
	for range 30000 {
		b, _ := packed(randomPackets(rng))
		if len(b) == 0 {
			b = make([]byte, 1+rng.Intn(2400))
		}
		for range rng.Intn(3) {
			b[rng.Intn(len(b))] ^= byte(1 << rng.Intn(8))
		}
		switch rng.Intn(4) {
		case 0:
			b = b[:rng.Intn(len(b))]
		case 1:
			b = append(b, make([]byte, rng.Intn(20))...)
		}
		seen[wantUnpack(t, "anything", b)]++
	}
	wantSeen(t, seen, 100, api.OK, api.ErrMany, api.ErrShort, api.ErrForm, api.ErrLong)
}

// P8.3: Join

func TestJoinAllLengths(t *testing.T) {
	for n := range 2420 {
		want := api.OK
		switch {
		case n == 0:
			want = api.ErrBad
		case n > 2400:
			want = api.ErrLong
		}
		b := wantJoin(t, "alone", pieces(n), want)
		if want == api.OK && (len(b) != 4+n || !bytes.Equal(b[:4], delimiter(n))) {
			t.Errorf("a piece of %d bytes: %d bytes", n, len(b))
		}
		wantJoin(t, "first", pieces(n, 3), want)
		wantJoin(t, "last", pieces(3, n), want)
		wantJoin(t, "in the middle", pieces(2, n, 1), want)
	}
	b := wantJoin(t, "a length of two bytes", pieces(1025), api.OK)
	if b[0] != 1 || b[1] != 4 || b[2] != check.Crc8([]byte{1, 4}) || b[3] != 78 {
		t.Error(b[:4])
	}
}

func TestJoinAllNumbers(t *testing.T) {
	for n := range 80 {
		want := api.OK
		switch {
		case n == 0:
			want = api.ErrNone
		case n > 64:
			want = api.ErrMany
		}
		for size := 1; size < 10; size++ {
			wantJoin(t, "alike", pieces(slices.Repeat([]int{size}, n)...), want)
		}
	}
}

// TestJoinFilling has all lengths, modulo 4, of three pieces.
func TestJoinFilling(t *testing.T) {
	for i := range 64 {
		x, y, z := 1+i%4, 1+i/4%4, 1+i/16
		if b := wantJoin(t, "filled", pieces(x, y, z), api.OK); len(b) != 8+8+4+z {
			t.Errorf("%d %d %d: %d bytes", x, y, z, len(b))
		}
	}
}

// TestJoinBound has forms about as long as the longest transmission, in which the last entry ends at any position.
func TestJoinBound(t *testing.T) {
	before := slices.Repeat([]int{2400}, 27) // 64,908 bytes
	for n := 615; n < 630; n++ {
		for fill := range 4 {
			l := slices.Clone(before)
			l[13] -= fill
			want := api.OK
			if n > 623 {
				want = api.ErrLong
			}
			b := wantJoin(t, "long", pieces(append(l, n)...), want)
			if want == api.OK && len(b) != 64912+n {
				t.Errorf("%d bytes behind 64,912: %d", n, len(b))
			}
		}
	}
	wantJoin(t, "64 pieces that are as long", pieces(append(slices.Repeat([]int{1020}, 63), 1019)...), api.OK)
	wantJoin(t, "64 pieces, one byte longer", pieces(slices.Repeat([]int{1020}, 64)...), api.ErrLong)
	wantJoin(t, "64 of the longest", pieces(slices.Repeat([]int{2400}, 64)...), api.ErrLong)
}

func TestOrderOfJoin(t *testing.T) {
	wantJoin(t, "many before bad", pieces(make([]int, 65)...), api.ErrMany)
	wantJoin(t, "many before long", pieces(slices.Repeat([]int{2401}, 65)...), api.ErrMany)
	wantJoin(t, "the first one is empty", pieces(0, 2401), api.ErrBad)
	wantJoin(t, "the first one is long", pieces(2401, 0), api.ErrLong)
	wantJoin(t, "the last of 64 is empty", pieces(append(slices.Repeat([]int{2400}, 63), 0)...), api.ErrBad)
	wantJoin(t, "the last of 64 is long", pieces(append(slices.Repeat([]int{2}, 63), 2401)...), api.ErrLong)
	for i := range 64 {
		l := pieces(slices.Repeat([]int{5}, 64)...)
		l[i] = nil
		wantJoin(t, "one is empty", l, api.ErrBad)
		l[i] = counted(2401)
		wantJoin(t, "one is long", l, api.ErrLong)
	}
}

func TestJoinAnything(t *testing.T) {
	rng := rand.New(rand.NewSource(4))
	seen := map[api.Errno]int{}
	for range 4000 {
		l := randomPieces(rng)
		if len(l) > 0 && rng.Intn(10) == 0 {
			l[rng.Intn(len(l))] = nil
		}
		_, e := joined(l)
		seen[e]++
		wantJoin(t, "anything", l, e)
	}
	wantSeen(t, seen, 20, api.OK, api.ErrNone, api.ErrMany, api.ErrBad, api.ErrLong)
}

// P8.3: Scan

func TestScanShort(t *testing.T) {
	for n := range 4 {
		wantFound(t, "fewer than four bytes", delimiter(1)[:n], nil, 0)
		wantFound(t, "zeros", make([]byte, n), nil, 0)
	}
	for n := range 40 {
		wantFound(t, "zeros", make([]byte, n), nil, n/4)
		wantFound(t, "ones", bytes.Repeat([]byte{255}, n), nil, n/4)
		wantFound(t, "marks", bytes.Repeat([]byte{78}, n), nil, n/4)
	}
}

// TestScanLengths has the delimiters of all lengths, with too few, enough and more bytes behind them.
func TestScanLengths(t *testing.T) {
	for _, n := range []int{1, 2, 3, 4, 5, 6, 7, 8, 9, 255, 256, 257, 2399, 2400} {
		d, piece := delimiter(n), counted(n)
		for left := range n {
			if n-left < 6 || left < 6 {
				wantFound(t, "too few", append(slices.Clone(d), piece[:left]...), nil, 1+left/4)
			}
		}
		wantFound(t, "enough", slices.Concat(d, piece), [][]byte{piece}, 0)
		for more := range 12 {
			skipped := max(0, more-(4-n%4)%4) / 4
			wantFound(t, "more", slices.Concat(d, piece, make([]byte, more)), [][]byte{piece}, skipped)
			wantFound(t, "more, whatever it is", slices.Concat(d, piece, bytes.Repeat([]byte{200}, more)), [][]byte{piece}, skipped)
		}
	}
	for _, n := range []int{0, 2401, 2402, 2404, 4000, 1 << 15, 65535} {
		wantFound(t, "no length of a piece", append(delimiter(n), make([]byte, n)...), nil, 1+n/4)
		wantFound(t, "no length of a piece", append(delimiter(n), make([]byte, 70000)...), nil, 17501)
	}
	for n := 0; n < 1<<16; n += 1 + n/2500*500 {
		want := [][]byte{make([]byte, n)}
		skipped := 0
		if n < 1 || n > 2400 {
			want, skipped = nil, 1+n/4
		}
		wantFound(t, "all lengths", append(delimiter(n), make([]byte, n)...), want, skipped)
	}
}

// TestScanDelimiters has all bytes in each place of a delimiter.
func TestScanDelimiters(t *testing.T) {
	for _, n := range []int{1, 5, 300, 2400} {
		for i := range 4 {
			for c := range 256 {
				b := append(delimiter(n), make([]byte, 2400)...)
				b[i] = byte(c)
				want := 0
				if bytes.Equal(b[:4], delimiter(n)) {
					want = 1
				}
				if l, skipped := wantScan(t, "a byte of a delimiter", b); len(l) != want || want == 0 && skipped != 601 {
					t.Errorf("byte %d is %d: %s, %d skipped", i, c, showPieces(l), skipped)
				}
			}
		}
	}
	// The short check value has to be found for both bytes of the length in their order.
	b := append([]byte{0, 1, check.Crc8([]byte{1, 0}), 78}, make([]byte, 300)...)
	wantFound(t, "the check of other bytes", b, nil, 76)
}

func TestScanPositions(t *testing.T) {
	entry := pieceEntry([]byte{7, 8, 9, 10, 11})
	for before := range 20 {
		b := append(bytes.Repeat([]byte{200}, before), entry...)
		if before%4 == 0 {
			wantFound(t, "at a multiple of 4", b, [][]byte{entry[4:]}, before/4)
		} else {
			wantFound(t, "elsewhere", b, nil, len(b)/4)
		}
	}
	wantFound(t, "filled by something else", slices.Concat(entry, []byte{1, 2, 3}, entry), [][]byte{entry[4:], entry[4:]}, 0)
	wantFound(t, "not filled", slices.Concat(entry, entry), [][]byte{entry[4:]}, 1)
	wantFound(t, "filled by more", slices.Concat(entry, make([]byte, 7), entry), [][]byte{entry[4:], entry[4:]}, 1)
	inner := append(delimiter(9), entry...)
	wantFound(t, "a delimiter in a piece", inner, [][]byte{entry}, 0)
	wantFound(t, "a delimiter in the place of a piece that is cut", inner[:12], nil, 3)
	long := append(delimiter(12), entry...)
	wantFound(t, "a delimiter in a piece that is cut", long, [][]byte{entry[4:]}, 1)
	wantFound(t, "a piece whose end is cut by no more than its zero bytes", slices.Concat(entry, []byte{0}), [][]byte{entry[4:]}, 0)
}

// randomScan returns a string with delimiters at many positions.
func randomScan(rng *rand.Rand) []byte {
	var b []byte
	for range rng.Intn(30) {
		switch rng.Intn(4) {
		case 0:
			b = append(b, random(rng, rng.Intn(9))...)
		case 1:
			b = append(b, delimiter(rng.Intn(40))...)
		case 2:
			b = append(b, pieceEntry(random(rng, rng.Intn(20)))...)
		case 3:
			b = filled(b)
		}
	}
	return b
}

func TestScanAnything(t *testing.T) {
	rng := rand.New(rand.NewSource(5))
	found, skips := 0, 0
	for range 30000 {
		l, skipped := wantScan(t, "anything", randomScan(rng))
		found += len(l)
		skips += skipped
	}
	if found < 50000 || skips < 50000 {
		t.Error("only", found, "pieces, and", skips, "skipped positions")
	}
	for range 3000 {
		wantScan(t, "random bytes", random(rng, rng.Intn(3000)))
	}
}

// P8.3: Same

func TestSame(t *testing.T) {
	changes := []func(p *packet){
		func(p *packet) { p.To[0] ^= 1 },
		func(p *packet) { p.To[5] ^= 1 },
		func(p *packet) { p.From[0] ^= 1 },
		func(p *packet) { p.From[5] ^= 1 },
		func(p *packet) { p.To, p.From = p.From, p.To },
		func(p *packet) { p.Data[0] ^= 1 },
		func(p *packet) { p.Data[2] ^= 1 },
		func(p *packet) { p.Data = p.Data[:2] },
		func(p *packet) { p.Data = nil },
		func(p *packet) { p.Data = append(p.Data, 0) },
	}
	for n := range 5 {
		l := packets(slices.Repeat([]int{3}, n)...)
		for m := range 5 {
			if aggregate.Same(l, packets(slices.Repeat([]int{3}, m)...)) != (m == n) {
				t.Error(n, "and", m, "packets")
			}
		}
		for i := range n {
			for j, change := range changes {
				m := packets(slices.Repeat([]int{3}, n)...)
				change(&m[i])
				if aggregate.Same(l, m) || aggregate.Same(m, l) {
					t.Errorf("change %d of packet %d of %d", j, i, n)
				}
			}
		}
	}
	l := packets(3, 4)
	if aggregate.Same(l, []packet{l[1], l[0]}) {
		t.Error("another order")
	}
	// Lists that cannot be packed are compared like others.
	for _, l := range [][]packet{packets(make([]int, 40)...), packets(3000, 2000), {{To: all, From: all}}} {
		if m := slices.Clone(l); !aggregate.Same(l, m) {
			t.Error(show(l))
		}
	}
}

// P8.4

func TestPackAndUnpackAreInverse(t *testing.T) {
	rng := rand.New(rand.NewSource(6))
	lists, forms := 0, 0
	for range 20000 {
		l := randomPackets(rng)
		if b, e := aggregate.Pack(l); e == api.OK {
			lists++
			if m, e := aggregate.Unpack(b); e != api.OK || !aggregate.Same(l, m) {
				t.Fatalf("%s, unpacked: %s, error %d", show(l), show(m), e)
			}
		}
		b := make([]byte, rng.Intn(100))
		for i := range b {
			b[i] = byte(rng.Intn(30) / 29 * rng.Intn(4))
		}
		if l, e := aggregate.Unpack(b); e == api.OK {
			forms++
			if c, e := aggregate.Pack(l); e != api.OK || !bytes.Equal(b, c) {
				t.Fatalf("%s, packed: %s, error %d", brief(b), brief(c), e)
			}
		}
	}
	if lists < 500 || forms < 500 {
		t.Error("only", lists, "lists, and", forms, "packed forms")
	}
}

// ends returns where the pieces of a list end in its joined form.
func ends(l [][]byte) []int {
	var at []int
	for i := range l {
		b, _ := joined(l[:i+1])
		at = append(at, len(b))
	}
	return at
}

// randomList returns a list that can be joined.
func randomList(rng *rand.Rand) ([][]byte, []byte) {
	for {
		l := randomPieces(rng)
		if b, e := aggregate.Join(l[:min(len(l), 20)]); e == api.OK {
			return l[:min(len(l), 20)], b
		}
	}
}

func TestDamageOfPieces(t *testing.T) {
	rng := rand.New(rand.NewSource(7))
	for range 3000 {
		l, b := randomList(rng)
		at := ends(l)
		i := rng.Intn(len(l))
		rng.Read(b[at[i]-len(l[i]) : at[i]])
		m, skipped := aggregate.Scan(b)
		want := slices.Clone(l)
		want[i] = b[at[i]-len(l[i]) : at[i]]
		if !equalPieces(m, want) || skipped != 0 {
			t.Fatalf("piece %d of %s: %s, %d skipped", i, showPieces(l), showPieces(m), skipped)
		}
	}
}

func TestDamageFromAPosition(t *testing.T) {
	rng := rand.New(rand.NewSource(8))
	for range 3000 {
		l, b := randomList(rng)
		from := rng.Intn(len(b))
		before := 0
		for _, end := range ends(l) {
			if end <= from {
				before++
			}
		}
		damaged := append(slices.Clone(b[:from]), random(rng, rng.Intn(50))...)
		if rng.Intn(2) == 0 {
			damaged = slices.Clone(b)
			rng.Read(damaged[from:])
		}
		if m, _ := aggregate.Scan(damaged); len(m) < before || !equalPieces(m[:before], l[:before]) {
			t.Fatalf("from %d of %d: %s, found: %s", from, len(b), showPieces(l), showPieces(m))
		}
	}
}

func TestDamageOfDelimiters(t *testing.T) {
	rng := rand.New(rand.NewSource(9))
	lost, inside := 0, 0
	for range 5000 {
		l, b := randomList(rng)
		i := rng.Intn(len(l))
		end := ends(l)[i]
		start := end - len(l[i])
		if rng.Intn(2) == 0 && len(l[i]) > 8 { // a piece that is like one that was joined
			copy(b[start+rng.Intn(len(l[i])-5):end], delimiter(1+rng.Intn(9)))
		}
		l[i] = slices.Clone(b[start:end])
		rng.Read(b[start-4 : start])
		found := false
		for at := start - 4; at < end; at += 4 {
			_, is := delimited(b, at)
			found = found || is
		}
		m, skipped := wantScan(t, "a delimiter is damaged", b)
		if found {
			inside++
			continue
		}
		lost++
		if !equalPieces(m, slices.Delete(slices.Clone(l), i, i+1)) {
			t.Fatalf("piece %d of %s: %s, %d skipped", i, showPieces(l), showPieces(m), skipped)
		}
	}
	if lost < 1000 || inside < 100 {
		t.Error("only", lost, "pieces that are lost, and", inside, "with a delimiter inside")
	}
}

// E6

// decoded returns the frames of a transmission that are not damaged.
func decoded(b []byte) []api.Frame {
	var l []api.Frame
	found, _ := aggregate.Scan(b)
	for _, piece := range found {
		if f, e := header.Decode(piece); e == api.OK {
			l = append(l, f)
		}
	}
	return l
}

func TestFramesOfATransmission(t *testing.T) {
	rng := rand.New(rand.NewSource(10))
	equalFrames := func(f, g api.Frame) bool { return f.Head == g.Head && bytes.Equal(f.Body, g.Body) }
	for range 60 {
		var frames []api.Frame
		var l [][]byte
		for seq := range 1 + rng.Intn(20) {
			h := api.Header{Kind: api.KindData, Sub: api.SubQos, ToDs: true, A1: near, A2: far, A3: group, Seq: seq, Tid: 5}
			f := api.Frame{Head: h, Body: random(rng, rng.Intn(30))}
			b, _ := header.Encode(f)
			frames, l = append(frames, f), append(l, b)
		}
		b, e := aggregate.Join(l)
		if e != api.OK || !slices.EqualFunc(decoded(b), frames, equalFrames) {
			t.Fatalf("%s: error %d, %d frames", showPieces(l), e, len(decoded(b)))
		}
		for i, end := range ends(l) {
			for at := end - len(l[i]) - 4; at < end; at++ {
				damaged := slices.Clone(b)
				damaged[at] ^= byte(1 + rng.Intn(255))
				want := slices.Delete(slices.Clone(frames), i, i+1)
				if !slices.EqualFunc(decoded(damaged), want, equalFrames) {
					t.Fatalf("%s: byte %d, of frame %d, is damaged: %d frames", showPieces(l), at, i, len(decoded(damaged)))
				}
			}
		}
	}
}

// R2

// guarded returns a copy of b with further memory behind its length.
func guarded(b []byte) []byte {
	return append(slices.Concat(b, []byte{0})[:len(b)], 1, 2, 3, 4, 5, 6, 7, 8, 9)[:len(b)]
}

func guardedPieces(l [][]byte) [][]byte {
	var m [][]byte
	for _, b := range l {
		m = append(m, guarded(b))
	}
	return append(m, []byte{77}, []byte{78, 79})[:len(l)]
}

func guardedPackets(l []packet) []packet {
	var m []packet
	for _, p := range l {
		p.Data = guarded(p.Data)
		m = append(m, p)
	}
	return append(m, packet{To: near, Data: []byte{77}}, packet{From: far})[:len(l)]
}

// everything returns all bytes of a list, the memory behind the lengths included.
func everything(l [][]byte) string {
	s := ""
	for _, b := range l[:cap(l)] {
		s += fmt.Sprint(len(b), b[:cap(b)])
	}
	return s
}

func everyPacket(l []packet) string {
	s := ""
	for _, p := range l[:cap(l)] {
		s += fmt.Sprint(p.To, p.From, len(p.Data), p.Data[:cap(p.Data)])
	}
	return s
}

func spoil(b []byte) {
	b = b[:cap(b)]
	for i := range b {
		b[i] ^= 255
	}
}

func spoilPieces(l [][]byte) {
	for i, b := range l[:cap(l)] {
		spoil(b)
		l[:cap(l)][i] = []byte{3}
	}
}

func spoilPackets(l []packet) {
	for i, p := range l[:cap(l)] {
		spoil(p.Data)
		l[:cap(l)][i] = packet{To: all, From: all, Data: []byte{3}}
	}
}

func TestArgumentsOfPack(t *testing.T) {
	for _, lengths := range [][]int{{0}, {1}, {2}, {3, 0, 0}, {9, 10, 11, 12, 13}, {1500, 700}, {1501}, {1500, 1500}} {
		l := guardedPackets(packets(lengths...))
		want, wantE := packed(l)
		before := everyPacket(l)
		b, _ := aggregate.Pack(l)
		again, e := aggregate.Pack(l)
		aggregate.Same(l, l)
		spoil(b)
		if everyPacket(l) != before {
			t.Errorf("%d: the argument was changed, or shares memory with the result", lengths)
		}
		spoilPackets(l)
		if e != wantE || !bytes.Equal(again, want) {
			t.Errorf("%d: a result shares memory with another or with the argument", lengths)
		}
	}
}

func TestArgumentsOfUnpack(t *testing.T) {
	for _, lengths := range [][]int{{0}, {1}, {2}, {3, 0, 0}, {9, 10, 11, 12, 13}, {1500, 700}} {
		want := packets(lengths...)
		form, _ := packed(want)
		b := guarded(form)
		before := fmt.Sprint(b[:cap(b)])
		l, _ := aggregate.Unpack(b)
		again, e := aggregate.Unpack(b)
		for i := range l {
			spoil(l[i].Data)
			if !equal(l[i+1:], want[i+1:]) {
				t.Errorf("%d: packets share memory", lengths)
			}
		}
		spoilPackets(l)
		if fmt.Sprint(b[:cap(b)]) != before {
			t.Errorf("%d: the argument was changed, or shares memory with the result", lengths)
		}
		spoil(b)
		if e != api.OK || !equal(again, want) {
			t.Errorf("%d: a result shares memory with another or with the argument", lengths)
		}
	}
}

func TestArgumentsOfJoin(t *testing.T) {
	for _, lengths := range [][]int{{1}, {2}, {4, 1, 1}, {9, 10, 11, 12, 13}, {2400, 700}, {2401}, {3, 0}} {
		l := guardedPieces(pieces(lengths...))
		want, wantE := joined(l)
		before := everything(l)
		b, _ := aggregate.Join(l)
		again, e := aggregate.Join(l)
		spoil(b)
		if everything(l) != before {
			t.Errorf("%d: the argument was changed, or shares memory with the result", lengths)
		}
		spoilPieces(l)
		if e != wantE || !bytes.Equal(again, want) {
			t.Errorf("%d: a result shares memory with another or with the argument", lengths)
		}
	}
}

func TestArgumentsOfScan(t *testing.T) {
	for _, lengths := range [][]int{{1}, {2}, {4, 1, 1}, {9, 10, 11, 12, 13}, {2400, 700}} {
		want := pieces(lengths...)
		form, _ := joined(want)
		b := guarded(slices.Concat([]byte{1, 2, 3, 4}, form))
		before := fmt.Sprint(b[:cap(b)])
		l, _ := aggregate.Scan(b)
		again, skipped := aggregate.Scan(b)
		for i := range l {
			spoil(l[i])
			if !equalPieces(l[i+1:], want[i+1:]) {
				t.Errorf("%d: pieces share memory", lengths)
			}
		}
		spoilPieces(l)
		if fmt.Sprint(b[:cap(b)]) != before {
			t.Errorf("%d: the argument was changed, or shares memory with the result", lengths)
		}
		spoil(b)
		if skipped != 1 || !equalPieces(again, want) {
			t.Errorf("%d: a result shares memory with another or with the argument", lengths)
		}
	}
}

// R3

func TestNilAndEmptyAreEqual(t *testing.T) {
	wantPack(t, "nil", nil, api.ErrNone)
	wantPack(t, "empty", []packet{}, api.ErrNone)
	wantJoin(t, "nil", nil, api.ErrNone)
	wantJoin(t, "empty", [][]byte{}, api.ErrNone)
	wantJoin(t, "a nil piece", [][]byte{nil}, api.ErrBad)
	wantJoin(t, "an empty piece", [][]byte{{}}, api.ErrBad)
	wantUnpackError(t, "nil", nil, api.ErrShort)
	wantUnpackError(t, "empty", []byte{}, api.ErrShort)
	wantFound(t, "nil", nil, nil, 0)
	wantFound(t, "empty", []byte{}, nil, 0)
	l, m := packets(0, 3), packets(0, 3)
	l[0].Data, m[0].Data = nil, []byte{}
	if !bytes.Equal(wantPack(t, "nil Data", l, api.OK), wantPack(t, "empty Data", m, api.OK)) {
		t.Error("nil and empty Data are packed in different ways")
	}
	if !aggregate.Same(l, m) || !aggregate.Same(m, l) || !aggregate.Same(nil, []packet{}) || !aggregate.Same([]packet{}, nil) {
		t.Error("nil and empty are not the same")
	}
	if aggregate.Same(nil, []packet{{}}) {
		t.Error("nil is the same as a packet without Data")
	}
}

// R7

func TestLargeArguments(t *testing.T) {
	large := make([]byte, 1<<26)
	wantPack(t, "large Data", []packet{{Data: large}}, api.ErrLong)
	wantPack(t, "many packets", make([]packet, 1<<20), api.ErrMany)
	wantJoin(t, "a large piece", [][]byte{large}, api.ErrLong)
	wantJoin(t, "many pieces", make([][]byte, 1<<20), api.ErrMany)
	wantUnpackError(t, "large", large, api.ErrLong)
	if l, skipped := aggregate.Scan(large); len(l) > 0 || skipped != 1<<24 {
		t.Error("zeros:", len(l), "pieces,", skipped, "skipped")
	}
	if l, skipped := aggregate.Scan(bytes.Repeat(filled(pieceEntry([]byte{7})), 1<<20)); len(l) != 1<<20 || skipped != 0 {
		t.Error("many pieces:", len(l), "pieces,", skipped, "skipped")
	}
}

func FuzzUnpack(f *testing.F) {
	for _, l := range [][]packet{packets(0), packets(1, 2, 3), packets(make([]int, 32)...), packets(1500, 774)} {
		b, _ := packed(l)
		f.Add(b)
		f.Add(filled(b))
	}
	f.Fuzz(func(t *testing.T, b []byte) { wantUnpack(t, "fuzz", b) })
}

// FuzzScan puts delimiters where a string has marks in their places, as they are hard to find otherwise.
func FuzzScan(f *testing.F) {
	b, _ := joined(pieces(1, 2, 3, 4, 5, 300))
	f.Add(b)
	f.Add(append([]byte{1, 2, 3, 4, 0, 0}, b...))
	f.Fuzz(func(t *testing.T, b []byte) {
		wantScan(t, "fuzz", b)
		b = slices.Clone(b)
		for at := 0; at+4 <= len(b); at++ {
			if b[at+3] == 78 {
				copy(b[at:], delimiter(int(b[at])))
			}
		}
		l, _ := wantScan(t, "fuzz", b)
		_, e := joined(l)
		wantJoin(t, "fuzz", l, e)
	})
}
