package header_test

import (
	"bytes"
	"fmt"
	"math"
	"math/rand"
	"slices"
	"strings"
	"testing"

	"hotspot/api"
	"hotspot/check"
	"hotspot/header"
)

type (
	head  = api.Header
	frame = api.Frame
)

// row is a row of the document's table.
type row struct {
	kind   uint8
	subs   []uint8
	fields string
}

const (
	manageFields  = " A1 A2 A3 More Retry Sleep MoreData Protected Duration Seq Frag "
	controlFields = " Sleep MoreData Duration "
	dataFields    = manageFields + "ToDs FromDs "
)

var rows = []row{
	{api.KindManage, []uint8{0, 1, 2, 3, 4, 5, 8, 10, 11, 12, 13}, manageFields},
	{api.KindControl, []uint8{api.SubCts, api.SubAck}, " A1" + controlFields},
	{api.KindControl, []uint8{api.SubRts, api.SubPsPoll, api.SubBar, api.SubBack}, " A1 A2" + controlFields},
	{api.KindData, []uint8{api.SubData, api.SubNull}, dataFields},
	{api.KindData, []uint8{api.SubQos, api.SubQosNull}, dataFields + "Tid Ack Amsdu Eosp "},
}

// field is a field of a header as a number: a truth value is 0 or 1, and of an address the last byte counts.
type field struct {
	name string
	most int
	get  func(h head) int
	set  func(h *head, n int)
}

func truth(name string, at func(h *head) *bool) field {
	get := func(h head) int {
		if *at(&h) {
			return 1
		}
		return 0
	}
	return field{name, 1, get, func(h *head, n int) { *at(h) = n != 0 }}
}

func number(name string, most int, at func(h *head) *int) field {
	return field{name, most, func(h head) int { return *at(&h) }, func(h *head, n int) { *at(h) = n }}
}

func addr(name string, at func(h *head) *api.Addr) field {
	get := func(h head) int {
		if *at(&h) == (api.Addr{}) {
			return 0
		}
		return 1
	}
	return field{name, 1, get, func(h *head, n int) { *at(h) = api.Addr{0, 0, 0, 0, 0, byte(n)} }}
}

var fields = []field{
	truth("ToDs", func(h *head) *bool { return &h.ToDs }),
	truth("FromDs", func(h *head) *bool { return &h.FromDs }),
	truth("More", func(h *head) *bool { return &h.More }),
	truth("Retry", func(h *head) *bool { return &h.Retry }),
	truth("Sleep", func(h *head) *bool { return &h.Sleep }),
	truth("MoreData", func(h *head) *bool { return &h.MoreData }),
	truth("Protected", func(h *head) *bool { return &h.Protected }),
	number("Duration", 32767, func(h *head) *int { return &h.Duration }),
	addr("A1", func(h *head) *api.Addr { return &h.A1 }),
	addr("A2", func(h *head) *api.Addr { return &h.A2 }),
	addr("A3", func(h *head) *api.Addr { return &h.A3 }),
	addr("A4", func(h *head) *api.Addr { return &h.A4 }),
	number("Seq", 4095, func(h *head) *int { return &h.Seq }),
	number("Frag", 15, func(h *head) *int { return &h.Frag }),
	number("Tid", 7, func(h *head) *int { return &h.Tid }),
	{"Ack", 2, func(h head) int { return int(h.Ack) }, func(h *head, n int) { h.Ack = uint8(n) }},
	truth("Amsdu", func(h *head) *bool { return &h.Amsdu }),
	truth("Eosp", func(h *head) *bool { return &h.Eosp }),
}

// rowOf returns the row of a Kind and Sub, and whether there is one.
func rowOf(kind, sub uint8) (row, bool) {
	for _, r := range rows {
		if r.kind == kind && slices.Contains(r.subs, sub) {
			return r, true
		}
	}
	return row{}, false
}

func uses(h head, name string) bool {
	r, _ := rowOf(h.Kind, h.Sub)
	if name == "A4" {
		return r.kind == api.KindData && h.ToDs && h.FromDs
	}
	return strings.Contains(r.fields, " "+name+" ")
}

func null(h head) bool {
	return h.Kind == api.KindData && (h.Sub == api.SubNull || h.Sub == api.SubQosNull)
}

// validHead tells whether a header is valid, as the definition says it.
func validHead(h head) bool {
	if _, is := rowOf(h.Kind, h.Sub); !is {
		return false
	}
	for _, f := range fields {
		n := f.get(h)
		if n < 0 || n > f.most || n != 0 && !uses(h, f.name) {
			return false
		}
	}
	if uses(h, "A2") && h.A2[0]%2 == 1 || h.A1[0]%2 == 1 && (h.More || h.Frag > 0) {
		return false
	}
	return !null(h) || !h.More && !h.Protected && !h.Amsdu && h.Frag == 0
}

// bodiless tells whether a frame with this header has no body.
func bodiless(h head) bool {
	return null(h) || h.Kind == api.KindControl && h.Sub != api.SubBar && h.Sub != api.SubBack
}

func validFrame(f frame) bool { return validHead(f.Head) && !(bodiless(f.Head) && len(f.Body) > 0) }

func encodeError(f frame) api.Errno {
	switch {
	case !validFrame(f):
		return api.ErrBad
	case len(f.Body) > 2304:
		return api.ErrLong
	}
	return api.OK
}

// front returns the bytes before the body, as the definition says it.
func front(h head) []byte {
	number := func(parts ...int) []byte {
		n := 0
		for _, p := range parts {
			n += p
		}
		return []byte{byte(n % 256), byte(n / 256)}
	}
	value := map[string]int{}
	for _, f := range fields {
		value[f.name] = f.get(h)
	}
	second := value["ToDs"] + 2*value["FromDs"] + 4*value["More"] + 8*value["Retry"] + 16*value["Sleep"] + 32*value["MoreData"] + 64*value["Protected"]
	b := []byte{4*h.Kind + 16*h.Sub, byte(second)}
	b = append(b, number(h.Duration)...)
	b = append(b, h.A1[:]...)
	if uses(h, "A2") {
		b = append(b, h.A2[:]...)
	}
	if h.Kind == api.KindControl {
		return b
	}
	b = append(b, h.A3[:]...)
	b = append(b, number(h.Frag, 16*h.Seq)...)
	if uses(h, "A4") {
		b = append(b, h.A4[:]...)
	}
	if uses(h, "Tid") {
		b = append(b, number(h.Tid, 16*value["Eosp"], 32*int(h.Ack), 128*value["Amsdu"])...)
	}
	return b
}

func encoding(f frame) []byte { return check.Append(append(front(f.Head), f.Body...)) }

// decoded returns what Decode has to return: after the errors that are named first, a string is refused if it is not the encoding of what is read from it.
func decoded(b []byte) (frame, api.Errno) {
	if len(b) < 4 {
		return frame{}, api.ErrShort
	}
	s := b[:len(b)-4]
	if !bytes.Equal(check.Append(s), b) {
		return frame{}, api.ErrCheck
	}
	if len(s) < 2 {
		return frame{}, api.ErrShort
	}
	h := head{Kind: s[0] / 4 % 4, Sub: s[0] / 16}
	if _, is := rowOf(h.Kind, h.Sub); !is || s[0]%4 > 0 || s[1] >= 128 {
		return frame{}, api.ErrForm
	}
	for i, f := range fields[:7] {
		f.set(&h, int(s[1])>>i%2)
	}
	need := len(front(h))
	if len(s) < need {
		return frame{}, api.ErrShort
	}
	word := func(i int) int { return int(s[i]) + 256*int(s[i+1]) }
	h.Duration = word(2)
	copy(h.A1[:], s[4:])
	if need > 10 {
		copy(h.A2[:], s[10:16])
	}
	if need > 16 {
		copy(h.A3[:], s[16:22])
		h.Frag, h.Seq = word(22)%16, word(22)/16
	}
	if need >= 30 {
		copy(h.A4[:], s[24:30])
	}
	if uses(h, "Tid") {
		n := word(need - 2)
		h.Tid, h.Eosp, h.Ack, h.Amsdu = n%8, n/16%2 == 1, uint8(n/32%4), n/128%2 == 1
	}
	f := frame{Head: h, Body: s[need:]}
	if !validFrame(f) || !bytes.Equal(encoding(f), b) {
		return frame{}, api.ErrForm
	}
	if len(f.Body) > 2304 {
		return frame{}, api.ErrLong
	}
	return f, api.OK
}

func with(h head, body []byte) frame { return frame{Head: h, Body: body} }

func equal(f, g frame) bool { return f.Head == g.Head && string(f.Body) == string(g.Body) }

// plain are headers with zeros, one of each Kind and Sub of the table, and with A4 where that is possible.
func plain() []head {
	var l []head
	for _, r := range rows {
		for _, sub := range r.subs {
			l = append(l, head{Kind: r.kind, Sub: sub})
			if r.kind == api.KindData {
				l = append(l, head{Kind: r.kind, Sub: sub, ToDs: true, FromDs: true})
			}
		}
	}
	return l
}

func randomAddr(rng *rand.Rand, group bool) api.Addr {
	var a api.Addr
	rng.Read(a[:])
	a[0] &^= 1
	if group {
		a[0] |= 1
	}
	return a
}

func randomBytes(rng *rand.Rand, n int) []byte {
	b := make([]byte, n)
	rng.Read(b)
	return b
}

func randomHead(rng *rand.Rand, h head) head {
	for _, f := range fields {
		if uses(h, f.name) {
			f.set(&h, []int{0, rng.Intn(f.most + 1), f.most}[rng.Intn(3)])
		}
	}
	group := rng.Intn(3) == 0
	for i, a := range []*api.Addr{&h.A1, &h.A2, &h.A3, &h.A4} {
		if *a = (api.Addr{}); uses(h, []string{"A1", "A2", "A3", "A4"}[i]) {
			*a = randomAddr(rng, group && i != 1)
		}
	}
	if group {
		h.More, h.Frag = false, 0
	}
	if null(h) {
		h.More, h.Protected, h.Amsdu, h.Frag = false, false, false, 0
	}
	return h
}

// goodFrames returns n valid frames of each Kind and Sub.
func goodFrames(seed int64, n int) []frame {
	rng := rand.New(rand.NewSource(seed))
	var l []frame
	for range n {
		for _, h := range plain() {
			f := frame{Head: randomHead(rng, h)}
			if !bodiless(h) {
				f.Body = randomBytes(rng, []int{0, 1, rng.Intn(40), rng.Intn(300)}[rng.Intn(4)])
			}
			l = append(l, f)
		}
	}
	return l
}

// anyFrames returns frames with fields of any values, of which a part is valid.
func anyFrames(seed int64, n int) []frame {
	rng := rand.New(rand.NewSource(seed))
	l := goodFrames(seed, n)
	for i := range l {
		f := &l[i]
		for range rng.Intn(3) {
			x := fields[rng.Intn(len(fields))]
			x.set(&f.Head, []int{0, 1, -1, 2, x.most, x.most + 1, -x.most, math.MaxInt, math.MinInt, 1 << 16, rng.Intn(1 << 17)}[rng.Intn(11)])
		}
		switch rng.Intn(12) {
		case 0:
			f.Head.Kind = uint8(rng.Intn(5))
		case 1:
			f.Head.Sub = uint8(rng.Intn(17))
		case 2:
			f.Head.Kind, f.Head.Sub = uint8(rng.Intn(256)), uint8(rng.Intn(256))
		case 3:
			f.Head.A1 = randomAddr(rng, true)
		case 4:
			f.Head.A2 = randomAddr(rng, true)
		case 5:
			f.Body = randomBytes(rng, 1+rng.Intn(5))
		case 6:
			f.Body = randomBytes(rng, 2300+rng.Intn(10))
		}
	}
	return l
}

func show(f frame) string { return fmt.Sprintf("%+v with %d bytes", f.Head, len(f.Body)) }

// wantHead checks Check and Size.
func wantHead(t *testing.T, what string, h head, want api.Errno) {
	t.Helper()
	if e := header.Check(h); e != want {
		t.Errorf("%s: Check of %+v: error %d, want %d", what, h, e, want)
	}
	size := 0
	if want == api.OK {
		size = len(front(h))
	}
	if n, e := header.Size(h); n != size || e != want {
		t.Errorf("%s: Size of %+v: %d, error %d, want %d, error %d", what, h, n, e, size, want)
	}
}

func wantEncode(t *testing.T, what string, f frame, want api.Errno) {
	t.Helper()
	var code []byte
	if want == api.OK {
		code = encoding(f)
	}
	if b, e := header.Encode(f); !bytes.Equal(b, code) || e != want {
		t.Errorf("%s: Encode of %s: %v, error %d, want %v, error %d", what, show(f), b, e, code, want)
	}
}

func wantDecode(t *testing.T, what string, b []byte, want frame, wantE api.Errno) {
	t.Helper()
	if f, e := header.Decode(b); !equal(f, want) || e != wantE {
		t.Errorf("%s: Decode of %d bytes: %s, error %d, want %s, error %d", what, len(b), show(f), e, show(want), wantE)
	}
}

// wantChecked has Decode read s with a check.
func wantChecked(t *testing.T, what string, s []byte, wantE api.Errno) {
	t.Helper()
	var want frame
	if wantE == api.OK {
		want, _ = decoded(check.Append(s))
	}
	wantDecode(t, what, check.Append(s), want, wantE)
}

// P5.1

var (
	one   = api.Addr{2, 0, 0, 0, 0, 1}
	two   = api.Addr{4, 0, 0, 0, 0, 2}
	three = api.Addr{6, 0, 0, 0, 0, 3}
	four  = api.Addr{8, 0, 0, 0, 0, 4}
	group = api.Addr{1, 0, 0, 0, 0, 5}
)

func TestExample(t *testing.T) {
	h := head{Kind: api.KindControl, Sub: api.SubAck, A1: api.Addr{2, 0, 0, 0, 0, 9}, Duration: 44}
	if n, e := header.Size(h); n != 10 || e != api.OK {
		t.Error(n, e)
	}
	want := []byte{212, 0, 44, 0, 2, 0, 0, 0, 0, 9}
	b, e := header.Encode(frame{Head: h})
	if e != api.OK || len(b) != 14 || !bytes.Equal(b[:10], want) {
		t.Fatal(b, e)
	}
	v := check.Crc32(want)
	if !bytes.Equal(b[10:], []byte{byte(v >> 24), byte(v >> 16), byte(v >> 8), byte(v)}) {
		t.Error("check", b[10:])
	}
}

func TestKnownEncodings(t *testing.T) {
	ack := head{Kind: api.KindControl, Sub: api.SubAck, A1: one}
	cases := []struct {
		f    frame
		want string
	}{
		{frame{Head: ack}, "\xd4\x00\x00\x00\x02\x00\x00\x00\x00\x01"},
		{frame{Head: head{Kind: 1, Sub: api.SubCts, A1: group, Duration: 0x7fff, Sleep: true, MoreData: true}},
			"\xc4\x30\xff\x7f\x01\x00\x00\x00\x00\x05"},
		{frame{Head: head{Kind: 1, Sub: api.SubRts, A1: one, A2: two, Duration: 0x1234}},
			"\xb4\x00\x34\x12\x02\x00\x00\x00\x00\x01\x04\x00\x00\x00\x00\x02"},
		{frame{Head: head{Kind: 1, Sub: api.SubPsPoll, A1: one, A2: two, Sleep: true}},
			"\xa4\x10\x00\x00\x02\x00\x00\x00\x00\x01\x04\x00\x00\x00\x00\x02"},
		{with(head{Kind: 1, Sub: api.SubBar, A1: one, A2: two}, []byte{7, 8}),
			"\x84\x00\x00\x00\x02\x00\x00\x00\x00\x01\x04\x00\x00\x00\x00\x02\x07\x08"},
		{with(head{Kind: 1, Sub: api.SubBack, A1: one, A2: two}, []byte{9}),
			"\x94\x00\x00\x00\x02\x00\x00\x00\x00\x01\x04\x00\x00\x00\x00\x02\x09"},
		{with(head{Sub: api.SubBeacon, A1: api.Addr{255, 255, 255, 255, 255, 255}, A2: two, A3: three, Seq: 0xabc}, []byte("b")),
			"\x80\x00\x00\x00\xff\xff\xff\xff\xff\xff\x04\x00\x00\x00\x00\x02\x06\x00\x00\x00\x00\x03\xc0\xabb"},
		{frame{Head: head{Kind: 2, Sub: api.SubNull, ToDs: true, A1: one, A2: two, A3: three, Sleep: true, Seq: 1}},
			"\x48\x11\x00\x00\x02\x00\x00\x00\x00\x01\x04\x00\x00\x00\x00\x02\x06\x00\x00\x00\x00\x03\x10\x00"},
		{with(head{Kind: 2, ToDs: true, FromDs: true, A1: one, A2: two, A3: three, A4: four, Seq: 0x102, Frag: 3, More: true}, []byte("d")),
			"\x08\x07\x00\x00\x02\x00\x00\x00\x00\x01\x04\x00\x00\x00\x00\x02\x06\x00\x00\x00\x00\x03\x23\x10\x08\x00\x00\x00\x00\x04d"},
		{with(head{Kind: 2, Sub: api.SubQos, FromDs: true, A1: one, A2: two, A3: three, Tid: 5, Ack: 1, Amsdu: true}, nil),
			"\x88\x02\x00\x00\x02\x00\x00\x00\x00\x01\x04\x00\x00\x00\x00\x02\x06\x00\x00\x00\x00\x03\x00\x00\xa5\x00"},
		{with(head{Kind: 2, Sub: api.SubQosNull, A1: one, A2: two, A3: three, Tid: 1, Ack: 2, Eosp: true}, nil),
			"\xc8\x00\x00\x00\x02\x00\x00\x00\x00\x01\x04\x00\x00\x00\x00\x02\x06\x00\x00\x00\x00\x03\x00\x00\x51\x00"},
		{with(head{Kind: 2, Sub: api.SubQosNull, ToDs: true, FromDs: true, A1: one, A2: two, A3: three, A4: four, Tid: 7}, nil),
			"\xc8\x03\x00\x00\x02\x00\x00\x00\x00\x01\x04\x00\x00\x00\x00\x02\x06\x00\x00\x00\x00\x03\x00\x00\x08\x00\x00\x00\x00\x04\x07\x00"},
	}
	for _, c := range cases {
		want := check.Append([]byte(c.want))
		if b, e := header.Encode(c.f); !bytes.Equal(b, want) || e != api.OK {
			t.Errorf("%s: %v, error %d, want %v", show(c.f), b, e, want)
		}
		if n, e := header.Size(c.f.Head); n != len(c.want)-len(c.f.Body) || e != api.OK {
			t.Errorf("%s: size %d, error %d", show(c.f), n, e)
		}
		wantHead(t, "known", c.f.Head, api.OK)
		wantDecode(t, "known", want, c.f, api.OK)
	}
}

func TestFlagBits(t *testing.T) {
	for i, x := range fields[:7] {
		h := head{Kind: api.KindData}
		x.set(&h, 1)
		b, e := header.Encode(frame{Head: h})
		if e != api.OK || b[1] != 1<<i {
			t.Errorf("%s: %v, error %d", x.name, b, e)
		}
		wantDecode(t, x.name, b, frame{Head: h}, api.OK)
	}
}

func TestSizes(t *testing.T) {
	sizes := map[string]int{}
	for _, h := range plain() {
		n, e := header.Size(h)
		if e != api.OK {
			t.Errorf("%+v: error %d", h, e)
		}
		sizes[fmt.Sprint(h.Kind, h.Sub, h.ToDs)] = n
	}
	for _, sub := range rows[0].subs {
		if n := sizes[fmt.Sprint(0, sub, false)]; n != 24 {
			t.Errorf("management frame %d: %d", sub, n)
		}
	}
	for sub, want := range map[uint8]int{8: 16, 9: 16, 10: 16, 11: 16, 12: 10, 13: 10} {
		if n := sizes[fmt.Sprint(1, sub, false)]; n != want {
			t.Errorf("control frame %d: %d", sub, n)
		}
	}
	for sub, want := range map[uint8]int{0: 24, 4: 24, 8: 26, 12: 26} {
		if n := sizes[fmt.Sprint(2, sub, false)]; n != want {
			t.Errorf("data frame %d: %d", sub, n)
		}
		if n := sizes[fmt.Sprint(2, sub, true)]; n != want+6 {
			t.Errorf("data frame %d with A4: %d", sub, n)
		}
	}
	for _, h := range []head{{Kind: 2, ToDs: true}, {Kind: 2, FromDs: true}} {
		if n, e := header.Size(h); n != 24 || e != api.OK {
			t.Errorf("%+v: %d, error %d", h, n, e)
		}
	}
}

func TestAllKindsAndSubs(t *testing.T) {
	for kind := range 256 {
		for sub := range 256 {
			h := head{Kind: uint8(kind), Sub: uint8(sub)}
			want := api.ErrBad
			if _, is := rowOf(h.Kind, h.Sub); is {
				want = api.OK
			}
			wantHead(t, "Kind and Sub", h, want)
			wantEncode(t, "Kind and Sub", frame{Head: h}, want)
		}
	}
}

// TestFieldsOneByOne sets each field of each Kind and Sub to values in its range and outside of it.
func TestFieldsOneByOne(t *testing.T) {
	for _, h := range plain() {
		for _, x := range fields {
			for _, n := range []int{1, 2, 3, 4, x.most / 2, x.most, x.most + 1, 256 + x.most, 1<<16 + 1, 1 << 32, math.MaxInt, -1, -256, -1 << 16, math.MinInt} {
				g := h
				x.set(&g, n)
				want := api.ErrBad
				if v := x.get(g); v == 0 || v > 0 && v <= x.most && uses(g, x.name) {
					want = api.OK
				}
				if null(h) && slices.Contains([]string{"More", "Protected", "Amsdu", "Frag"}, x.name) && x.get(g) != 0 {
					want = api.ErrBad
				}
				wantHead(t, x.name, g, want)
				wantEncode(t, x.name, frame{Head: g}, want)
			}
		}
	}
}

// TestUnusedAddresses has each byte of the addresses, and A4 with and without both flags.
func TestUnusedAddresses(t *testing.T) {
	for _, h := range plain() {
		for name, at := range map[string]func(h *head) *api.Addr{
			"A1": func(h *head) *api.Addr { return &h.A1 },
			"A2": func(h *head) *api.Addr { return &h.A2 },
			"A3": func(h *head) *api.Addr { return &h.A3 },
			"A4": func(h *head) *api.Addr { return &h.A4 },
		} {
			for i := range 6 {
				g := h
				at(&g)[i] = 128
				want := api.ErrBad
				if uses(h, name) {
					want = api.OK
				}
				wantHead(t, name, g, want)
			}
		}
	}
	for _, sub := range []uint8{api.SubData, api.SubNull, api.SubQos, api.SubQosNull} {
		wantHead(t, "no ToDs and FromDs", head{Kind: 2, Sub: sub, A4: four}, api.ErrBad)
		wantHead(t, "only ToDs", head{Kind: 2, Sub: sub, ToDs: true, A4: four}, api.ErrBad)
		wantHead(t, "only FromDs", head{Kind: 2, Sub: sub, FromDs: true, A4: four}, api.ErrBad)
		wantHead(t, "ToDs and FromDs", head{Kind: 2, Sub: sub, ToDs: true, FromDs: true, A4: four}, api.OK)
		wantHead(t, "no A4", head{Kind: 2, Sub: sub, ToDs: true, FromDs: true}, api.OK)
	}
}

func TestGroupAddresses(t *testing.T) {
	for _, h := range plain() {
		for c := range 256 {
			a := api.Addr{byte(c), 255, 255, 255, 255, 255}
			g := h
			g.A1 = a
			wantHead(t, "A1", g, api.OK)
			if uses(h, "A2") {
				g = h
				g.A2 = a
				want := api.OK
				if c%2 == 1 {
					want = api.ErrBad
				}
				wantHead(t, "A2", g, want)
			}
			if uses(h, "A3") {
				g = h
				g.A3 = a
				wantHead(t, "A3", g, api.OK)
			}
			if uses(h, "A4") {
				g = h
				g.A4 = a
				wantHead(t, "A4", g, api.OK)
			}
		}
	}
}

func TestNoFragmentsForGroups(t *testing.T) {
	for _, h := range plain() {
		if h.Kind == api.KindControl || null(h) {
			continue
		}
		h.Seq = 77
		for _, a := range []api.Addr{group, {255, 255, 255, 255, 255, 255}, {3}} {
			h.A1 = a
			wantHead(t, "no fragment for a group", h, api.OK)
			g := h
			g.More = true
			wantHead(t, "first fragment for a group", g, api.ErrBad)
			wantEncode(t, "first fragment for a group", frame{Head: g}, api.ErrBad)
			for frag := 1; frag <= 15; frag++ {
				g.More, g.Frag = false, frag
				wantHead(t, "last fragment for a group", g, api.ErrBad)
				g.More = true
				wantHead(t, "fragment for a group", g, api.ErrBad)
				g.A1 = one
				wantHead(t, "fragment for a station", g, api.OK)
				g.A1 = a
			}
		}
		// A group in another place, or a group bit in another byte, does not matter.
		h.A1, h.A3, h.More, h.Frag = api.Addr{2, 1, 1, 1, 1, 1}, group, true, 15
		wantHead(t, "A3 is a group", h, api.OK)
	}
}

func TestFramesOfNull(t *testing.T) {
	for _, h := range plain() {
		if !null(h) {
			continue
		}
		h.Retry, h.Sleep, h.MoreData, h.Duration, h.Seq = true, true, true, 32767, 4095
		if h.Sub == api.SubQosNull {
			h.Tid, h.Ack, h.Eosp = 7, 2, true
		}
		wantHead(t, "null", h, api.OK)
		wantEncode(t, "null", frame{Head: h}, api.OK)
		wantEncode(t, "null", frame{Head: h, Body: []byte{}}, api.OK)
		for _, name := range []string{"More", "Protected", "Amsdu", "Frag"} {
			i := slices.IndexFunc(fields, func(x field) bool { return x.name == name })
			g := h
			fields[i].set(&g, 1)
			wantHead(t, name, g, api.ErrBad)
			wantEncode(t, name, frame{Head: g}, api.ErrBad)
		}
	}
}

func TestBodies(t *testing.T) {
	for _, h := range plain() {
		for _, n := range []int{0, 1, 2, 255, 256, 2303, 2304, 2305, 2306, 5000, 1 << 17} {
			f := frame{Head: h, Body: bytes.Repeat([]byte{7}, n)}
			want := api.OK
			switch {
			case n > 0 && bodiless(h):
				want = api.ErrBad
			case n > 2304:
				want = api.ErrLong
			}
			wantHead(t, "body", h, api.OK) // the body is no part of the header
			wantEncode(t, "body", f, want)
		}
	}
}

func TestOrderOfEncode(t *testing.T) {
	long := make([]byte, 2305)
	wantEncode(t, "not valid and long", frame{Head: head{Kind: 3}, Body: long}, api.ErrBad)
	wantEncode(t, "not valid and long", frame{Head: head{Duration: 32768}, Body: long}, api.ErrBad)
	wantEncode(t, "not valid and long", frame{Head: head{Kind: 2, Sub: api.SubNull}, Body: long}, api.ErrBad)
	wantEncode(t, "long", frame{Head: head{}, Body: long}, api.ErrLong)
}

func TestAnyFrames(t *testing.T) {
	seen := map[api.Errno]int{}
	for _, f := range append(anyFrames(1, 2000), goodFrames(2, 300)...) {
		want := api.OK
		if !validHead(f.Head) {
			want = api.ErrBad
		}
		wantHead(t, "any", f.Head, want)
		seen[encodeError(f)]++
		wantEncode(t, "any", f, encodeError(f))
	}
	for _, e := range []api.Errno{api.OK, api.ErrBad, api.ErrLong} {
		if seen[e] < 100 {
			t.Errorf("only %d frames with the error %d", seen[e], e)
		}
	}
}

// P5.2

func TestDecodeShort(t *testing.T) {
	for n := range 4 {
		wantDecode(t, "no check", make([]byte, n), frame{}, api.ErrShort)
		wantDecode(t, "no check", bytes.Repeat([]byte{255}, n), frame{}, api.ErrShort)
	}
	wantDecode(t, "nil", nil, frame{}, api.ErrShort)
	wantChecked(t, "a check alone", nil, api.ErrShort)
	for c := range 256 {
		wantChecked(t, "one byte", []byte{byte(c)}, api.ErrShort)
		wantDecode(t, "four bytes", []byte{0, 0, 0, byte(c) | 1}, frame{}, api.ErrCheck)
	}
}

// TestDecodeShortened cuts frames of all kinds; bodies become shorter, then the header does not fit.
func TestDecodeShortened(t *testing.T) {
	for _, f := range append(goodFrames(3, 3), frame{Head: head{Kind: 2, Sub: api.SubQos, ToDs: true, FromDs: true}, Body: []byte("abc")}) {
		s := append(front(f.Head), f.Body...)
		size := len(front(f.Head))
		for n := range len(s) + 1 {
			want := api.OK
			if n < size {
				want = api.ErrShort
			}
			wantChecked(t, fmt.Sprintf("%d bytes of %s", n, show(f)), s[:n], want)
		}
	}
}

// TestDecodeOfAllStarts has all values of the first two bytes, with some numbers of zeros behind them.
func TestDecodeOfAllStarts(t *testing.T) {
	for first := range 256 {
		for second := range 256 {
			kind, sub := uint8(first/4%4), uint8(first/16)
			_, is := rowOf(kind, sub)
			size := len(front(head{Kind: kind, Sub: sub, ToDs: second%4 == 3, FromDs: second%4 == 3}))
			for _, n := range []int{2, size - 1, size, size + 1} {
				s := append([]byte{byte(first), byte(second)}, make([]byte, n-2)...)
				var want api.Errno
				switch {
				case first%4 > 0 || second > 127 || !is:
					want = api.ErrForm
				case n < size:
					want = api.ErrShort
				case kind == 0 && second%4 > 0, kind == 1 && second&^0x30 > 0:
					want = api.ErrForm
				case kind == 2 && sub%8 == 4 && second&0x44 > 0, n > size && bodiless(head{Kind: kind, Sub: sub}):
					want = api.ErrForm
				}
				wantChecked(t, fmt.Sprintf("%d %d and %d zeros", first, second, n-2), s, want)
			}
		}
	}
}

func TestDecodeOfAllDurations(t *testing.T) {
	for _, h := range plain() {
		s := front(h)
		step := 1
		if h.Kind == api.KindManage && h.Sub > 0 {
			step = 255
		}
		for n := 0; n < 1<<16; n += step {
			s[2], s[3] = byte(n), byte(n>>8)
			f, e := header.Decode(check.Append(s))
			g := h
			g.Duration = n
			if n > 32767 && (e != api.ErrForm || !equal(f, frame{})) || n <= 32767 && (e != api.OK || f.Head != g) {
				t.Fatalf("%+v with the duration %d: %+v, error %d", h, n, f.Head, e)
			}
		}
	}
}

func TestDecodeOfAllTraffic(t *testing.T) {
	for _, h := range plain() {
		if !uses(h, "Tid") {
			continue
		}
		s := front(h)
		at := len(s) - 2
		for n := range 1 << 16 {
			s[at], s[at+1] = byte(n), byte(n>>8)
			f, e := header.Decode(check.Append(s))
			g := h
			g.Tid, g.Eosp, g.Ack, g.Amsdu = n%8, n&16 > 0, uint8(n&96/32), n&128 > 0
			if bad := n > 255 || n&8 > 0 || n&96 == 96 || g.Amsdu && null(h); bad {
				if e != api.ErrForm || !equal(f, frame{}) {
					t.Fatalf("%+v with the traffic %d: %+v, error %d", h, n, f.Head, e)
				}
			} else if e != api.OK || f.Head != g {
				t.Fatalf("%+v with the traffic %d: %+v, error %d", h, n, f.Head, e)
			}
		}
	}
}

func TestDecodeOfAllNumbers(t *testing.T) {
	for _, h := range plain() {
		if h.Kind == api.KindControl {
			continue
		}
		for _, g := range []head{h, {Kind: h.Kind, Sub: h.Sub, ToDs: h.ToDs, FromDs: h.FromDs, A1: group}} {
			s := front(g)
			for n := 0; n < 1<<16; n += 1 + 30*int(h.Sub) {
				s[22], s[23] = byte(n), byte(n>>8)
				f, e := header.Decode(check.Append(s))
				g.Frag, g.Seq = n%16, n/16
				if g.Frag > 0 && (null(h) || g.A1 == group) {
					if e != api.ErrForm || !equal(f, frame{}) {
						t.Fatalf("%+v: %+v, error %d", g, f.Head, e)
					}
				} else if e != api.OK || f.Head != g {
					t.Fatalf("%+v: %+v, error %d", g, f.Head, e)
				}
			}
		}
	}
}

func TestDecodeOfGroups(t *testing.T) {
	for _, h := range plain() {
		s := front(h)
		for at, name := range map[int]string{4: "A1", 10: "A2", 16: "A3", 24: "A4"} {
			if !uses(h, name) {
				continue
			}
			want := api.OK
			if name == "A2" {
				want = api.ErrForm
			}
			s[at] = 1
			wantChecked(t, name+" is a group", s, want)
			s[at] = 2
			wantChecked(t, name+" is no group", s, api.OK)
			s[at] = 0
		}
		if h.Kind != api.KindControl {
			s[4], s[1] = 1, s[1]|4
			wantChecked(t, "first fragment for a group", s, api.ErrForm)
		}
	}
}

func TestDecodeOfBodies(t *testing.T) {
	for _, h := range plain() {
		for _, n := range []int{0, 1, 2, 2304, 2305, 2306, 1 << 16} {
			want := api.OK
			switch {
			case n > 0 && bodiless(h):
				want = api.ErrForm
			case n > 2304:
				want = api.ErrLong
			}
			wantChecked(t, fmt.Sprintf("%+v with %d bytes", h, n), append(front(h), make([]byte, n)...), want)
		}
	}
}

func TestOrderOfDecode(t *testing.T) {
	qos := front(head{Kind: 2, Sub: api.SubQos})
	change := func(n int, at int, v byte) []byte {
		s := append(bytes.Clone(qos), make([]byte, 2305)...)[:n]
		s[at] = v
		return s
	}
	damaged := check.Append(change(3, 0, 1))
	damaged[6] ^= 1
	wantDecode(t, "check before form", damaged, frame{}, api.ErrCheck)
	wantDecode(t, "check before short", []byte{1, 0, 0, 0, 0}, frame{}, api.ErrCheck)
	wantDecode(t, "check before long", append(check.Append(change(26+2305, 8, 1)), 1), frame{}, api.ErrCheck)
	wantChecked(t, "short before form", []byte{3}, api.ErrShort)
	wantChecked(t, "bits of the first byte before short", change(5, 0, 0x8a), api.ErrForm)
	wantChecked(t, "bit of the second byte before short", change(5, 1, 128), api.ErrForm)
	wantChecked(t, "Kind before short", change(5, 0, 0x8c), api.ErrForm)
	wantChecked(t, "Sub before short", change(5, 0, 0x18), api.ErrForm)
	wantChecked(t, "short before the duration", change(25, 3, 128), api.ErrShort)
	wantChecked(t, "short before A2", change(25, 10, 1), api.ErrShort)
	wantChecked(t, "short before the flags of a management frame", []byte{0, 3, 0, 0}, api.ErrShort)
	wantChecked(t, "short before the flags of a control frame", []byte{0xd4, 0x7f, 0, 0}, api.ErrShort)
	wantChecked(t, "duration before long", change(26+2305, 3, 128), api.ErrForm)
	wantChecked(t, "A2 before long", change(26+2305, 10, 1), api.ErrForm)
	wantChecked(t, "traffic before long", change(26+2305, 24, 8), api.ErrForm)
	wantChecked(t, "a null frame before long", change(26+2305, 0, 0xc8), api.ErrForm)
	wantChecked(t, "long", change(26+2305, 4, 1), api.ErrLong)
}

// TestManagementFramesHaveNoA4: with both flags they do not need 30 bytes, but are refused.
func TestManagementFramesHaveNoA4(t *testing.T) {
	s := front(head{Sub: api.SubAuth})
	s[1] = 3
	wantChecked(t, "24 bytes with ToDs and FromDs", s, api.ErrForm)
	wantChecked(t, "23 bytes with ToDs and FromDs", s[:23], api.ErrShort)
}

func TestDecodeOfChangedEncodings(t *testing.T) {
	rng := rand.New(rand.NewSource(4))
	seen := map[api.Errno]int{}
	for _, f := range goodFrames(5, 150) {
		s := append(front(f.Head), f.Body...)
		for range 10 {
			d := bytes.Clone(s)
			for range rng.Intn(4) {
				switch at := rng.Intn(min(len(d), 34) + 1); {
				case rng.Intn(10) == 0:
					d = d[:at]
				case rng.Intn(10) == 0:
					d = slices.Insert(d, at, randomBytes(rng, []int{1, 2, 6, 2304}[rng.Intn(4)])...)
				case at < len(d) && rng.Intn(2) == 0:
					d[at] ^= 1 << rng.Intn(8)
				case at < len(d):
					d[at] = byte(rng.Intn(256))
				}
			}
			b := check.Append(d)
			if rng.Intn(20) == 0 {
				b = b[:rng.Intn(len(b))]
			}
			want, e := decoded(b)
			seen[e]++
			wantDecode(t, "changed "+show(f), b, want, e)
		}
	}
	for _, e := range []api.Errno{api.OK, api.ErrShort, api.ErrCheck, api.ErrForm, api.ErrLong} {
		if seen[e] < 50 {
			t.Errorf("only %d strings with the error %d", seen[e], e)
		}
	}
}

// P5.3

func wantEnds(t *testing.T, h head, to, from api.Addr, want api.Errno) {
	t.Helper()
	if a, b, e := header.Ends(h); a != to || b != from || e != want {
		t.Errorf("ends of %+v: %v %v, error %d, want %v %v, error %d", h, a, b, e, to, from, want)
	}
}

func TestEnds(t *testing.T) {
	var no api.Addr
	for _, sub := range []uint8{api.SubData, api.SubNull, api.SubQos, api.SubQosNull} {
		h := head{Kind: api.KindData, Sub: sub, A1: one, A2: two, A3: three}
		wantEnds(t, h, one, two, api.OK)
		h.ToDs = true
		wantEnds(t, h, three, two, api.OK)
		h.ToDs, h.FromDs = false, true
		wantEnds(t, h, one, three, api.OK)
		h.ToDs, h.A4 = true, four
		wantEnds(t, h, three, four, api.OK)
		h.A1, h.A3, h.A4 = group, group, group
		wantEnds(t, h, group, group, api.OK)
		h.A2 = group
		wantEnds(t, h, no, no, api.ErrBad)
		wantEnds(t, head{Kind: api.KindData, Sub: sub, ToDs: true, A4: four}, no, no, api.ErrBad)
	}
	for _, sub := range rows[0].subs {
		h := head{Sub: sub, A1: one, A2: two, A3: three, Duration: 5, Seq: 6, Protected: true}
		wantEnds(t, h, one, two, api.OK)
		h.ToDs = true
		wantEnds(t, h, no, no, api.ErrBad)
		h.FromDs, h.A4 = true, four
		wantEnds(t, h, no, no, api.ErrBad)
	}
	for sub := uint8(8); sub <= 13; sub++ {
		h := head{Kind: api.KindControl, Sub: sub, A1: one}
		wantEnds(t, h, no, no, api.ErrArg)
		h.A3 = three // Check's error is named first
		wantEnds(t, h, no, no, api.ErrBad)
	}
	wantEnds(t, head{Kind: api.KindControl}, no, no, api.ErrBad)
	wantEnds(t, head{Kind: 3}, no, no, api.ErrBad)
	wantEnds(t, head{Kind: api.KindData, A1: one, A2: two, Seq: -1}, no, no, api.ErrBad)
}

func TestEndsOfAnyFrames(t *testing.T) {
	for _, f := range anyFrames(6, 500) {
		h := f.Head
		var to, from api.Addr
		want := api.OK
		switch {
		case !validHead(h):
			want = api.ErrBad
		case h.Kind == api.KindControl:
			want = api.ErrArg
		default:
			to, from = h.A1, h.A2
			if h.ToDs {
				to = h.A3
			}
			if h.FromDs {
				from = h.A3
			}
			if h.ToDs && h.FromDs {
				from = h.A4
			}
		}
		wantEnds(t, h, to, from, want)
	}
}

func TestCategory(t *testing.T) {
	want := []uint8{api.CatBest, api.CatBack, api.CatBack, api.CatBest, api.CatVideo, api.CatVideo, api.CatVoice, api.CatVoice}
	for tid, cat := range want {
		if c, e := header.Category(tid); c != cat || e != api.OK {
			t.Errorf("%d: %d, error %d, want %d", tid, c, e, cat)
		}
	}
	for _, tid := range []int{-1, 8, 9, 15, 16, 255, 256, 1 << 32, 1<<32 + 4, -1 << 32, math.MaxInt, math.MinInt} {
		if c, e := header.Category(tid); c != 0 || e != api.ErrArg {
			t.Errorf("%d: %d, error %d", tid, c, e)
		}
	}
}

func wantSame(t *testing.T, what string, f, g frame, want bool) {
	t.Helper()
	if header.Same(f, g) != want || header.Same(g, f) != want {
		t.Errorf("%s: %s and %s: not %v", what, show(f), show(g), want)
	}
}

func TestSame(t *testing.T) {
	wantSame(t, "zero", frame{}, frame{}, true)
	wantSame(t, "nil and empty", frame{}, frame{Body: []byte{}}, true)
	wantSame(t, "empty", frame{Body: []byte{}}, frame{Body: []byte{1}[:0]}, true)
	wantSame(t, "other length", frame{Body: []byte{1}}, frame{Body: []byte{1, 0}}, false)
	wantSame(t, "empty and zero", frame{}, frame{Body: []byte{0}}, false)
	for _, f := range anyFrames(7, 60) {
		same := with(f.Head, bytes.Clone(f.Body))
		wantSame(t, "copy", f, same, true)
		for i := range f.Body {
			same.Body[i] ^= 4
			wantSame(t, "other byte", f, same, false)
			same.Body[i] ^= 4
		}
		for _, x := range fields {
			other := same
			x.set(&other.Head, x.get(f.Head)^1)
			wantSame(t, x.name, f, other, other.Head == f.Head)
			if x.most == 1 && strings.HasPrefix(x.name, "A") && x.name != "Amsdu" {
				continue // an address may have been the same
			}
			wantSame(t, x.name, f, other, false)
		}
		for i := range 6 {
			for k := range 4 {
				other := same
				[]*api.Addr{&other.Head.A1, &other.Head.A2, &other.Head.A3, &other.Head.A4}[k][i] ^= 16
				wantSame(t, "byte of an address", f, other, false)
			}
		}
		other := same
		other.Head.Kind ^= 2
		wantSame(t, "Kind", f, other, false)
		other = same
		other.Head.Sub ^= 128
		wantSame(t, "Sub", f, other, false)
	}
}

func TestTwin(t *testing.T) {
	for _, f := range append(anyFrames(8, 100), frame{}, frame{Body: []byte{}}) {
		if g := header.Twin(f); !equal(f, g) {
			t.Errorf("twin of %s: %s", show(f), show(g))
		}
	}
}

// P5.4

func TestInverse(t *testing.T) {
	for _, f := range goodFrames(9, 300) {
		b, e := header.Encode(f)
		if e != api.OK {
			t.Fatalf("%s: error %d", show(f), e)
		}
		g, e := header.Decode(b)
		if e != api.OK || !equal(f, g) {
			t.Fatalf("%s is decoded as %s, error %d", show(f), show(g), e)
		}
		if again, e := header.Encode(g); e != api.OK || !bytes.Equal(again, b) {
			t.Fatalf("%s is encoded again as %v, error %d", show(f), again, e)
		}
	}
}

// flip changes bits of b; they are counted as the check orders them.
func flip(b []byte, at ...int) {
	for _, i := range at {
		b[i/8] ^= 1 << (7 - i%8)
	}
}

func wantFound(t *testing.T, what string, f frame, b []byte) {
	t.Helper()
	if g, e := header.Decode(b); e != api.ErrCheck || !equal(g, frame{}) {
		t.Fatalf("%s of %s: %s, error %d", what, show(f), show(g), e)
	}
}

func TestDamageInOnePlace(t *testing.T) {
	rng := rand.New(rand.NewSource(10))
	frames := append(goodFrames(11, 1), with(head{Kind: 2, Sub: api.SubQos}, randomBytes(rng, 2304)))
	for _, f := range frames {
		b, _ := header.Encode(f)
		step := 1
		if len(b) > 1000 {
			step = 5
		}
		for from := 0; from < 8*len(b); from += step {
			most := min(32, 8*len(b)-from)
			for _, pattern := range []uint32{1, math.MaxUint32, 1<<31 | 1, rng.Uint32(), rng.Uint32()} {
				d := bytes.Clone(b)
				changed := false
				for i := range most {
					if pattern>>i&1 == 1 {
						flip(d, from+i)
						changed = true
					}
				}
				if changed {
					wantFound(t, fmt.Sprintf("damage %x at %d", pattern, from), f, d)
				}
			}
		}
	}
}

func TestDamageOfAnOddNumberOfBits(t *testing.T) {
	rng := rand.New(rand.NewSource(12))
	for _, f := range goodFrames(13, 10) {
		b, _ := header.Encode(f)
		for range 20 {
			d := bytes.Clone(b)
			n := 1 + 2*rng.Intn(4*len(b))
			flip(d, rng.Perm(8 * len(b))[:n]...)
			wantFound(t, fmt.Sprint(n, " changed bits"), f, d)
		}
	}
}

func TestDifferentEncodings(t *testing.T) {
	of := map[string]frame{}
	put := func(f frame) {
		b, e := header.Encode(f)
		if e != api.OK {
			return
		}
		if old, is := of[string(b)]; is && !equal(old, f) {
			t.Fatalf("%s and %s have one encoding", show(old), show(f))
		}
		of[string(b)] = f
	}
	for _, f := range goodFrames(14, 40) {
		put(f)
		for _, x := range fields {
			g := f
			x.set(&g.Head, x.get(f.Head)^1)
			put(g)
		}
		// The first bytes of a body are not taken for a part of the header, and the other way round.
		put(with(f.Head, append([]byte{0, 0}, f.Body...)))
		put(with(f.Head, append([]byte{0, 0, 0, 0, 0, 0}, f.Body...)))
		g := f.Head
		g.Kind, g.Sub = api.KindData, api.SubQos
		put(with(g, f.Body))
	}
}

func FuzzDecode(f *testing.F) {
	for _, g := range append(goodFrames(15, 1), with(head{Kind: 2}, make([]byte, 2304))) {
		f.Add(append(front(g.Head), g.Body...))
	}
	f.Fuzz(func(t *testing.T, s []byte) {
		want, e := decoded(s)
		wantDecode(t, "bytes", s, want, e)
		b := check.Append(s)
		want, e = decoded(b)
		wantDecode(t, "bytes with a check", b, want, e)
		if e != api.OK {
			return
		}
		wantHead(t, "what was decoded", want.Head, api.OK)
		if again, e := header.Encode(want); e != api.OK || !bytes.Equal(again, b) {
			t.Error("encoded again:", again, e)
		}
	})
}

// R2

// guarded returns a copy of b with further memory behind its length.
func guarded(b []byte) []byte {
	return append(bytes.Clone(b), 1, 2, 3, 4, 5, 6, 7, 8, 9)[:len(b)]
}

// whole returns all bytes of b, those behind its length included.
func whole(b []byte) string { return string(b[:cap(b)]) }

// spoil changes all memory of b, that behind its length included.
func spoil(b []byte) {
	b = b[:cap(b)]
	for i := range b {
		b[i] ^= 255
	}
}

func TestFramesAreOnlyRead(t *testing.T) {
	for _, f := range append(goodFrames(16, 20), anyFrames(17, 50)...) {
		g := with(f.Head, guarded(f.Body))
		before := whole(g.Body)
		first, e := header.Encode(g)
		second, _ := header.Encode(g)
		header.Same(g, g)
		twin, other := header.Twin(g), header.Twin(g)
		spoil(first)
		spoil(twin.Body)
		if whole(g.Body) != before {
			t.Fatalf("a result shares memory with %s, or that was changed", show(f))
		}
		if e == api.OK && !bytes.Equal(second, encoding(f)) || !equal(other, f) {
			t.Fatalf("results for %s share memory", show(f))
		}
	}
}

func TestBytesAreOnlyRead(t *testing.T) {
	for _, f := range goodFrames(18, 20) {
		b := guarded(encoding(f))
		before := whole(b)
		first, e := header.Decode(b)
		second, _ := header.Decode(b)
		if e != api.OK || whole(b) != before {
			t.Fatalf("Decode changed its argument or saw behind it: error %d", e)
		}
		spoil(first.Body)
		if whole(b) != before || !equal(second, f) {
			t.Fatalf("the result for %s shares memory", show(f))
		}
	}
}

// R7

func TestDecodeOfLargeStrings(t *testing.T) {
	for c := range 256 {
		b := bytes.Repeat([]byte{byte(c)}, 1<<12)
		want, e := decoded(b)
		wantDecode(t, fmt.Sprintf("many bytes %d", c), b, want, e)
		b = check.Append(b)
		want, e = decoded(b)
		wantDecode(t, fmt.Sprintf("many bytes %d with a check", c), b, want, e)
	}
	wantChecked(t, "a large body", make([]byte, 1<<22), api.ErrLong)
	wantEncode(t, "a large body", frame{Body: make([]byte, 1<<26)}, api.ErrLong)
}
