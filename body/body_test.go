package body_test

import (
	"bytes"
	"fmt"
	"math"
	"math/rand"
	"slices"
	"testing"

	"hotspot/api"
	"hotspot/body"
	"hotspot/element"
)

type (
	elem = api.Element
	list = []api.Element
)

// content is a body of any kind: the numbers in its fields of fixed length, in the order of the document's table, and what follows them.
type content struct {
	nums  []int
	elems list
	data  []byte
}

// none is the greatest value of a field that has to be zero.
const none = -1

// field is a field of fixed length: how many bits it has in the encoding, and its greatest valid value (0: any value of its type).
type field struct {
	name string
	bits int
	most int
}

// What follows the fields of fixed length.
const (
	followElems = "elements"
	followData  = "data"
	followNone  = "nothing"
)

// kind is a row of the document's table. Old is a number, too: the first byte of the address is its lowest one.
type kind struct {
	name   string
	fields []field
	follow string
	encode func(c content) ([]byte, api.Errno)
	decode func(b []byte) (content, api.Errno)
}

func (k kind) fixed() int {
	n := 0
	for _, f := range k.fields {
		n += f.bits
	}
	return n / 8
}

func oldOf(n int) (a api.Addr) {
	for i := range a {
		a[i] = byte(n >> (8 * i))
	}
	return a
}

func numberOf(a api.Addr) (n int) {
	for i, c := range a {
		n += int(c) << (8 * i)
	}
	return n
}

// decodedAs turns a function of the package into one that returns a content.
func decodedAs[T any](decode func([]byte) (T, api.Errno), turn func(x T) content) func([]byte) (content, api.Errno) {
	return func(b []byte) (content, api.Errno) {
		x, e := decode(b)
		return turn(x), e
	}
}

func requestKind(name string, old field, again bool) kind {
	return kind{
		name, []field{{"Caps", 16, 0}, {"Listen", 16, 0}, old}, followElems,
		func(c content) ([]byte, api.Errno) {
			n := c.nums
			return body.EncodeAssocReq(api.AssocReq{Caps: uint16(n[0]), Listen: uint16(n[1]), Old: oldOf(n[2]), Elems: c.elems}, again)
		},
		decodedAs(func(b []byte) (api.AssocReq, api.Errno) { return body.DecodeAssocReq(b, again) }, func(x api.AssocReq) content {
			return content{nums: []int{int(x.Caps), int(x.Listen), numberOf(x.Old)}, elems: x.Elems}
		}),
	}
}

var beaconKind = kind{
	"Beacon", []field{{"Time", 64, 0}, {"Interval", 16, 0}, {"Caps", 16, 0}}, followElems,
	func(c content) ([]byte, api.Errno) {
		n := c.nums
		return body.EncodeBeacon(api.Beacon{Time: uint64(n[0]), Interval: uint16(n[1]), Caps: uint16(n[2]), Elems: c.elems})
	},
	decodedAs(body.DecodeBeacon, func(x api.Beacon) content {
		return content{nums: []int{int(x.Time), int(x.Interval), int(x.Caps)}, elems: x.Elems}
	}),
}

var authKind = kind{
	"AuthBody", []field{{"Alg", 16, 0}, {"Step", 16, 0}, {"Status", 16, 0}}, followElems,
	func(c content) ([]byte, api.Errno) {
		n := c.nums
		return body.EncodeAuth(api.AuthBody{Alg: uint16(n[0]), Step: uint16(n[1]), Status: uint16(n[2]), Elems: c.elems})
	},
	decodedAs(body.DecodeAuth, func(x api.AuthBody) content {
		return content{nums: []int{int(x.Alg), int(x.Step), int(x.Status)}, elems: x.Elems}
	}),
}

var (
	assocKind   = requestKind("AssocReq", field{"Old", 0, none}, false)
	reassocKind = requestKind("AssocReq, again", field{"Old", 48, 0}, true)
)

var respKind = kind{
	"AssocResp", []field{{"Caps", 16, 0}, {"Status", 16, 0}, {"Aid", 16, 255}}, followElems,
	func(c content) ([]byte, api.Errno) {
		n := c.nums
		return body.EncodeAssocResp(api.AssocResp{Caps: uint16(n[0]), Status: uint16(n[1]), Aid: n[2], Elems: c.elems})
	},
	decodedAs(body.DecodeAssocResp, func(x api.AssocResp) content {
		return content{nums: []int{int(x.Caps), int(x.Status), x.Aid}, elems: x.Elems}
	}),
}

var reasonKind = kind{
	"Reason", []field{{"Code", 16, 0}}, followElems,
	func(c content) ([]byte, api.Errno) {
		return body.EncodeReason(api.Reason{Code: uint16(c.nums[0]), Elems: c.elems})
	},
	decodedAs(body.DecodeReason, func(x api.Reason) content {
		return content{nums: []int{int(x.Code)}, elems: x.Elems}
	}),
}

var actionKind = kind{
	"Action", []field{{"Category", 8, 0}, {"Code", 8, 0}, {"Token", 8, 0}}, followData,
	func(c content) ([]byte, api.Errno) {
		n := c.nums
		return body.EncodeAction(api.Action{Category: uint8(n[0]), Code: uint8(n[1]), Token: uint8(n[2]), Data: c.data})
	},
	decodedAs(body.DecodeAction, func(x api.Action) content {
		return content{nums: []int{int(x.Category), int(x.Code), int(x.Token)}, data: x.Data}
	}),
}

var barKind = kind{
	"Bar", []field{{"Tid", 4, 7}, {"Start", 12, 4095}}, followNone,
	func(c content) ([]byte, api.Errno) {
		return body.EncodeBar(api.Bar{Tid: c.nums[0], Start: c.nums[1]})
	},
	decodedAs(body.DecodeBar, func(x api.Bar) content {
		return content{nums: []int{x.Tid, x.Start}}
	}),
}

var backKind = kind{
	"Back", []field{{"Tid", 4, 7}, {"Start", 12, 4095}, {"Bits", 64, 0}}, followNone,
	func(c content) ([]byte, api.Errno) {
		return body.EncodeBack(api.Back{Tid: c.nums[0], Start: c.nums[1], Bits: uint64(c.nums[2])})
	},
	decodedAs(body.DecodeBack, func(x api.Back) content {
		return content{nums: []int{x.Tid, x.Start, int(x.Bits)}}
	}),
}

var kinds = []kind{beaconKind, authKind, assocKind, reassocKind, respKind, reasonKind, actionKind, barKind, backKind}

func (f field) valid(n int) bool {
	return f.most == 0 || f.most == none && n == 0 || n >= 0 && n <= f.most
}

func (k kind) valid(c content) bool {
	for i, f := range k.fields {
		if !f.valid(c.nums[i]) {
			return false
		}
	}
	return true
}

// front returns the fields of fixed length, written bit by bit.
func (k kind) front(c content) []byte {
	b := make([]byte, k.fixed())
	at := 0
	for i, f := range k.fields {
		for bit := range f.bits {
			b[at/8] += byte(uint64(c.nums[i])>>bit%2) << (at % 8)
			at++
		}
	}
	return b
}

// numbers is the inverse of front.
func (k kind) numbers(b []byte) []int {
	l := make([]int, len(k.fields))
	at := 0
	for i, f := range k.fields {
		var n uint64
		for bit := range f.bits {
			n += uint64(b[at/8]>>(at%8)%2) << bit
			at++
		}
		l[i] = int(n)
	}
	return l
}

// encoded returns what the encoding function has to return.
func (k kind) encoded(c content) ([]byte, api.Errno) {
	if !k.valid(c) {
		return nil, api.ErrBad
	}
	rest := c.data
	if k.follow == followElems {
		var e api.Errno
		if rest, e = element.Encode(c.elems); e != api.OK {
			return nil, e
		}
	}
	b := slices.Concat(k.front(c), rest)
	if len(b) > 2304 {
		return nil, api.ErrLong
	}
	return b, api.OK
}

func (k kind) zero() content { return content{nums: make([]int, len(k.fields))} }

// decoded returns what the decoding function has to return.
func (k kind) decoded(b []byte) (content, api.Errno) {
	if len(b) > 2304 {
		return k.zero(), api.ErrLong
	}
	if len(b) < k.fixed() {
		return k.zero(), api.ErrShort
	}
	c := content{nums: k.numbers(b)}
	if !k.valid(c) {
		return k.zero(), api.ErrForm
	}
	rest := b[k.fixed():]
	var e api.Errno
	switch {
	case k.follow == followElems:
		c.elems, e = element.Decode(rest)
	case k.follow == followData:
		c.data = rest
	case len(rest) > 0:
		e = api.ErrLong
	}
	if e != api.OK {
		return k.zero(), e
	}
	return c, api.OK
}

func equal(c, d content) bool {
	return slices.Equal(c.nums, d.nums) && element.Same(c.elems, d.elems) && bytes.Equal(c.data, d.data)
}

// show writes a value shortly enough for a message.
func show(v any) string {
	s := fmt.Sprint(v)
	if len(s) > 200 {
		return s[:200] + fmt.Sprintf(".. (%d characters)", len(s))
	}
	return s
}

func wantEncode(t *testing.T, k kind, what string, c content, want []byte, wantE api.Errno) {
	t.Helper()
	if b, e := k.encode(c); e != wantE || !bytes.Equal(b, want) || e != api.OK && b != nil {
		t.Errorf("%s, %s: encoded as %s %d, want %s %d", k.name, what, show(b), e, show(want), wantE)
	}
}

func wantDecode(t *testing.T, k kind, what string, b []byte, want content, wantE api.Errno) {
	t.Helper()
	if c, e := k.decode(b); e != wantE || !equal(c, want) {
		t.Errorf("%s, %s: decoded as %s %d, want %s %d", k.name, what, show(c), e, show(want), wantE)
	}
}

func wantDecodeError(t *testing.T, k kind, what string, b []byte, want api.Errno) {
	t.Helper()
	wantDecode(t, k, what, b, k.zero(), want)
}

// wantAsDefined compares both directions with the definitions.
func wantAsDefined(t *testing.T, k kind, what string, c content) {
	t.Helper()
	b, e := k.encoded(c)
	wantEncode(t, k, what, c, b, e)
	if e == api.OK {
		wantDecode(t, k, what, b, c, api.OK)
	}
}

// plain returns a valid content with different bytes everywhere.
func (k kind) plain() content {
	c := k.zero()
	for i := range k.fields {
		c.nums[i] = 0x1827364554637281 >> (4 * i) & (1<<k.fields[i].bits - 1)
		if most := k.fields[i].most; most > 0 {
			c.nums[i] %= most + 1
		}
	}
	return c
}

// row returns n elements without data.
func row(n int) list {
	l := make(list, n)
	for i := range l {
		l[i].Id = byte(i % 200)
	}
	return l
}

// sized returns a list whose encoding has n bytes, from 2,070 to 2,300.
func sized(n int) list {
	// Data of 1,024 bytes is five parts.
	big := make([]byte, 1024)
	return list{{Id: 1, Data: big}, {Id: 2, Data: big}, {Id: 3, Data: make([]byte, n-2*1034-2)}}
}

// filled returns a content whose encoding has n bytes.
func (k kind) filled(n int) content {
	c := k.plain()
	n -= k.fixed()
	if k.follow == followElems {
		c.elems = sized(n)
	} else {
		c.data = bytes.Repeat([]byte{0xa5}, n)
	}
	return c
}

func follows(what string) []kind {
	return slices.DeleteFunc(slices.Clone(kinds), func(k kind) bool { return k.follow != what })
}

func randomList(rng *rand.Rand, depth int) list {
	var l list
	for range rng.Intn(5) {
		x := elem{Id: uint8(rng.Intn(254))}
		switch {
		case x.Id < 200 || x.Id > 219:
			x.Data = make([]byte, rng.Intn(20))
			if rng.Intn(20) == 0 {
				x.Data = make([]byte, rng.Intn(1025))
			}
			rng.Read(x.Data)
		case depth < 4:
			x.Subs = randomList(rng, depth+1)
		}
		if rng.Intn(10) == 0 {
			x = elem{Id: 255, Ext: uint8(rng.Intn(256)), Data: []byte{1, 2}}
		}
		l = append(l, x)
	}
	return l
}

// random returns a content that is mostly valid.
func (k kind) random(rng *rand.Rand) content {
	c := k.zero()
	for i, f := range k.fields {
		switch {
		case f.bits == 64:
			c.nums[i] = int(rng.Uint64())
		case f.most > 0:
			c.nums[i] = rng.Intn(f.most + 1)
			if rng.Intn(30) == 0 {
				c.nums[i] = rng.Intn(1<<20) - 1<<19
			}
		default:
			c.nums[i] = rng.Intn(1 << f.bits)
		}
	}
	switch k.follow {
	case followElems:
		c.elems = randomList(rng, 1)
	case followData:
		c.data = make([]byte, rng.Intn(40))
		rng.Read(c.data)
	}
	return c
}

// P6.1 and P6.2

func TestKnownEncodings(t *testing.T) {
	lab := list{{Id: 0, Data: []byte("lab")}, {Id: 200, Subs: list{{Id: 7, Data: []byte{1, 2}}}}, {Id: 255, Ext: 9}}
	labBytes := []byte{0, 3, 'l', 'a', 'b', 200, 4, 7, 2, 1, 2, 255, 1, 9}
	cases := []struct {
		k kind
		c content
		b []byte
	}{
		{reasonKind, content{nums: []int{7}}, []byte{7, 0}},
		{backKind, content{nums: []int{5, 3, 1}}, []byte{53, 0, 1, 0, 0, 0, 0, 0, 0, 0}},
		{beaconKind, content{nums: []int{0x0807060504030201, 0x0a09, 0x0c0b}}, []byte{1, 2, 3, 4, 5, 6, 7, 8, 9, 10, 11, 12}},
		{beaconKind, content{nums: []int{-2, 0xfffe, 0xfffd}}, []byte{254, 255, 255, 255, 255, 255, 255, 255, 254, 255, 253, 255}},
		{beaconKind, content{nums: []int{1, 2, 3}, elems: lab}, append([]byte{1, 0, 0, 0, 0, 0, 0, 0, 2, 0, 3, 0}, labBytes...)},
		{authKind, content{nums: []int{0x0201, 0x0403, 0x0605}}, []byte{1, 2, 3, 4, 5, 6}},
		{authKind, content{nums: []int{1, 2, 3}, elems: lab}, append([]byte{1, 0, 2, 0, 3, 0}, labBytes...)},
		{assocKind, content{nums: []int{0x0201, 0x0403, 0}}, []byte{1, 2, 3, 4}},
		{assocKind, content{nums: []int{1, 2, 0}, elems: lab}, append([]byte{1, 0, 2, 0}, labBytes...)},
		{reassocKind, content{nums: []int{0x0201, 0x0403, 0}}, []byte{1, 2, 3, 4, 0, 0, 0, 0, 0, 0}},
		{reassocKind, content{nums: []int{0x0201, 0x0403, 0x0a0908070605}}, []byte{1, 2, 3, 4, 5, 6, 7, 8, 9, 10}},
		{reassocKind, content{nums: []int{1, 2, 0xffffffffffff}, elems: lab}, append([]byte{1, 0, 2, 0, 255, 255, 255, 255, 255, 255}, labBytes...)},
		{respKind, content{nums: []int{0x0201, 0x0403, 0}}, []byte{1, 2, 3, 4, 0, 0}},
		{respKind, content{nums: []int{1, 2, 255}, elems: lab}, append([]byte{1, 0, 2, 0, 255, 0}, labBytes...)},
		{reasonKind, content{nums: []int{0x0201}, elems: lab}, append([]byte{1, 2}, labBytes...)},
		{actionKind, content{nums: []int{3, 1, 9}}, []byte{3, 1, 9}},
		{actionKind, content{nums: []int{255, 254, 253}, data: []byte{254, 0, 1}}, []byte{255, 254, 253, 254, 0, 1}},
		{barKind, content{nums: []int{0, 0}}, []byte{0, 0}},
		{barKind, content{nums: []int{5, 0x123}}, []byte{0x35, 0x12}},
		{barKind, content{nums: []int{7, 4095}}, []byte{0xf7, 0xff}},
		{backKind, content{nums: []int{6, 0xabc, 0x0807060504030201}}, []byte{0xc6, 0xab, 1, 2, 3, 4, 5, 6, 7, 8}},
		{backKind, content{nums: []int{7, 4095, -1}}, []byte{0xf7, 255, 255, 255, 255, 255, 255, 255, 255, 255}},
	}
	for _, c := range cases {
		wantEncode(t, c.k, show(c.c), c.c, c.b, api.OK)
		wantDecode(t, c.k, show(c.c), c.b, c.c, api.OK)
	}
}

// TestEachFieldHasItsPlace uses the bodies of the package themselves, with every field different.
func TestEachFieldHasItsPlace(t *testing.T) {
	l := list{{Id: 5, Data: []byte{6}}}
	b, e := body.EncodeAssocReq(api.AssocReq{Caps: 1, Listen: 2, Old: api.Addr{6, 5, 4, 3, 2, 1}, Elems: l}, true)
	if want := []byte{1, 0, 2, 0, 6, 5, 4, 3, 2, 1, 5, 1, 6}; e != api.OK || !bytes.Equal(b, want) {
		t.Error(b, e)
	}
	x, e := body.DecodeAssocReq(b, true)
	if e != api.OK || x.Caps != 1 || x.Listen != 2 || x.Old != (api.Addr{6, 5, 4, 3, 2, 1}) || !element.Same(x.Elems, l) {
		t.Error(x, e)
	}
	y, e := body.DecodeBeacon([]byte{1, 0, 0, 0, 0, 0, 0, 0x80, 2, 0, 3, 0, 5, 1, 6})
	if e != api.OK || y.Time != 1<<63+1 || y.Interval != 2 || y.Caps != 3 || !element.Same(y.Elems, l) {
		t.Error(y, e)
	}
}

func TestAgainstTheDefinitions(t *testing.T) {
	rng := rand.New(rand.NewSource(1))
	for _, k := range kinds {
		for range 3000 {
			c := k.random(rng)
			wantAsDefined(t, k, show(c), c)
		}
	}
}

func TestEveryBitOfEveryField(t *testing.T) {
	for _, k := range kinds {
		for i, f := range k.fields {
			for bit := range f.bits {
				c := k.zero()
				c.nums[i] = 1 << bit
				wantAsDefined(t, k, fmt.Sprintf("bit %d of %s", bit, f.name), c)
			}
		}
	}
}

// P6.1

func TestEncodeBad(t *testing.T) {
	cases := []struct {
		k    kind
		at   int
		most int
	}{{respKind, 2, 255}, {barKind, 0, 7}, {barKind, 1, 4095}, {backKind, 0, 7}, {backKind, 1, 4095}}
	for _, x := range cases {
		c := x.k.plain()
		what := func(n int) string { return fmt.Sprintf("%s %d", x.k.fields[x.at].name, n) }
		for n := 0; n <= x.most; n++ {
			c.nums[x.at] = n
			wantEncode(t, x.k, what(n), c, slices.Concat(x.k.front(c), c.data), api.OK)
		}
		for _, n := range []int{-1, -2, -16, -x.most, x.most + 1, x.most + 2, 2*x.most + 1, 65535, 65536, 65536 + x.most, 1 << 32, 1<<32 + 1, -1 << 32, math.MinInt, math.MinInt + 1, math.MaxInt} {
			c.nums[x.at] = n
			wantEncode(t, x.k, what(n), c, nil, api.ErrBad)
		}
	}
}

func TestOldInAssociationRequests(t *testing.T) {
	for bit := range 48 {
		c := assocKind.plain()
		c.nums[2] = 1 << bit
		wantEncode(t, assocKind, fmt.Sprint("bit of Old ", bit), c, nil, api.ErrBad)
		wantEncode(t, reassocKind, fmt.Sprint("bit of Old ", bit), c, reassocKind.front(c), api.OK)
		c.elems = row(65)
		wantEncode(t, assocKind, "Old and 65 elements", c, nil, api.ErrBad)
		wantEncode(t, reassocKind, "Old and 65 elements", c, nil, api.ErrMany)
	}
}

// badLists are lists with the errors of element.Encode.
var badLists = []struct {
	what string
	l    list
	e    api.Errno
}{
	{"65 elements", row(65), api.ErrMany},
	{"65 elements, and one not valid", append(row(64), elem{Id: 254}), api.ErrMany},
	{"an element too deep", list{{Id: 200, Subs: list{{Id: 200, Subs: list{{Id: 200, Subs: list{{Id: 200, Subs: row(1)}}}}}}}}, api.ErrMany},
	{"an Id 254", list{{Id: 1}, {Id: 254}}, api.ErrBad},
	{"an Ext", list{{Id: 3, Ext: 1}}, api.ErrBad},
	{"an element not valid, among too many bytes", append(sized(2300), sized(2300)[0], elem{Id: 1, Subs: row(1)}), api.ErrBad},
	{"an element of 1,025 bytes", list{{Id: 1, Data: make([]byte, 1025)}}, api.ErrLong},
}

func TestErrorsOfElements(t *testing.T) {
	for _, k := range follows(followElems) {
		for _, bad := range badLists {
			c := k.plain()
			c.elems = bad.l
			wantEncode(t, k, bad.what, c, nil, bad.e)
		}
	}
	for _, bad := range badLists {
		for _, aid := range []int{-1, 256} {
			c := respKind.plain()
			c.nums[2], c.elems = aid, bad.l
			wantEncode(t, respKind, "an Aid, and "+bad.what, c, nil, api.ErrBad)
		}
	}
}

func TestEncodeLong(t *testing.T) {
	for _, k := range append(follows(followElems), actionKind) {
		for n := 2290; n <= 2304; n++ {
			c := k.filled(n)
			if b, e := k.encoded(c); e != api.OK || len(b) != n {
				t.Fatalf("%s: the test has %d bytes instead of %d", k.name, len(b), n)
			}
			wantAsDefined(t, k, fmt.Sprint(n, " bytes"), c)
		}
		for _, n := range []int{2305, 2306, 2312} {
			wantEncode(t, k, fmt.Sprint(n, " bytes"), k.filled(n), nil, api.ErrLong)
		}
	}
	long := content{nums: []int{1, 2, -1}, elems: respKind.filled(2305).elems}
	wantEncode(t, respKind, "too long, and an Aid", long, nil, api.ErrBad)
	wantEncode(t, actionKind, "2^20 bytes", content{nums: []int{1, 2, 3}, data: make([]byte, 1<<20)}, nil, api.ErrLong)
}

// P6.2

func TestDecodeShort(t *testing.T) {
	for _, k := range kinds {
		for _, fill := range []byte{0, 1, 8, 254, 255} {
			for n := range k.fixed() {
				wantDecodeError(t, k, fmt.Sprintf("%d bytes %d", n, fill), bytes.Repeat([]byte{fill}, n), api.ErrShort)
			}
		}
		wantDecodeError(t, k, "nothing", nil, api.ErrShort)
		wantDecode(t, k, "all fields", k.front(k.plain()), k.plain(), api.OK)
	}
}

// TestDecodeAid has all numbers in place of an Aid.
func TestDecodeAid(t *testing.T) {
	for n := range 1 << 16 {
		b := []byte{1, 0, 2, 0, byte(n), byte(n >> 8)}
		if n <= 255 {
			wantDecode(t, respKind, fmt.Sprint("Aid ", n), b, content{nums: []int{1, 2, n}}, api.OK)
			continue
		}
		for _, rest := range [][]byte{nil, {7, 0}, {254, 0}, {1}, make([]byte, 2*65)} {
			wantDecodeError(t, respKind, fmt.Sprintf("Aid %d and %d bytes", n, len(rest)), slices.Concat(b, rest), api.ErrForm)
		}
	}
}

// TestDecodeStart has all numbers in place of a Tid and a Start.
func TestDecodeStart(t *testing.T) {
	for n := range 1 << 16 {
		for _, k := range []kind{barKind, backKind} {
			b := append([]byte{byte(n), byte(n >> 8)}, make([]byte, k.fixed()-2)...)
			more := slices.Concat(b, []byte{0})
			c := k.zero()
			c.nums[0], c.nums[1] = n%16, n/16
			if n%16 >= 8 {
				wantDecodeError(t, k, fmt.Sprint("bit 3 of ", n), b, api.ErrForm)
				wantDecodeError(t, k, fmt.Sprint("a byte left, and bit 3 of ", n), more, api.ErrForm)
				continue
			}
			wantDecode(t, k, fmt.Sprint(n), b, c, api.OK)
			wantDecodeError(t, k, fmt.Sprint("a byte left behind ", n), more, api.ErrLong)
		}
	}
}

func TestDecodeBytesLeft(t *testing.T) {
	for _, k := range []kind{barKind, backKind} {
		for n := 1; n <= 2400; n++ {
			b := append(k.front(k.plain()), make([]byte, n)...)
			wantDecodeError(t, k, fmt.Sprint(n, " bytes left"), b, api.ErrLong)
			b[0] |= 8
			want := api.ErrForm
			if len(b) > 2304 {
				want = api.ErrLong
			}
			wantDecodeError(t, k, fmt.Sprint("bit 3, and bytes left: ", n), b, want)
		}
	}
}

func TestDecodeLong(t *testing.T) {
	for _, k := range kinds {
		for _, n := range []int{2305, 2306, 4000, 1 << 20} {
			for _, fill := range []byte{0, 1, 8, 254, 255} {
				wantDecodeError(t, k, fmt.Sprintf("%d bytes %d", n, fill), bytes.Repeat([]byte{fill}, n), api.ErrLong)
			}
		}
	}
	for _, k := range follows(followElems) {
		long := k.filled(2305)
		rest, e := element.Encode(long.elems)
		if e != api.OK {
			t.Fatal(e)
		}
		b := slices.Concat(k.front(long), rest)
		wantDecodeError(t, k, "elements that are too long", b, api.ErrLong)
	}
	data := bytes.Repeat([]byte{1, 2, 3}, 768)
	wantDecode(t, actionKind, "2304 bytes", data, content{nums: []int{1, 2, 3}, data: data[3:]}, api.OK)
	wantDecodeError(t, actionKind, "2305 bytes", append(data, 1), api.ErrLong)
}

func TestDecodeErrorsOfElements(t *testing.T) {
	large := slices.Concat([]byte{1, 255}, make([]byte, 255))
	for range 4 {
		large = slices.Concat(large, []byte{254, 255}, make([]byte, 255))
	}
	large = append(large, 254, 0)
	cases := []struct {
		what string
		rest []byte
		e    api.Errno
	}{
		{"65 elements", bytes.Repeat([]byte{1, 0}, 65), api.ErrMany},
		{"an Id 254", []byte{1, 0, 254, 0}, api.ErrForm},
		{"255 without Ext", []byte{255, 0}, api.ErrForm},
		{"an Id alone", []byte{1, 0, 1}, api.ErrShort},
		{"data that is missing", []byte{1, 2, 3}, api.ErrShort},
		{"an element of 1,275 bytes", large, api.ErrLong},
		{"a container too deep", []byte{200, 8, 200, 6, 200, 4, 200, 2, 1, 0}, api.ErrMany},
	}
	for _, k := range follows(followElems) {
		for _, c := range cases {
			wantDecodeError(t, k, c.what, append(k.front(k.plain()), c.rest...), c.e)
		}
	}
	// The data of an Action is not a list of elements.
	for _, c := range cases {
		wantDecode(t, actionKind, c.what, slices.Concat([]byte{9, 8, 7}, c.rest), content{nums: []int{9, 8, 7}, data: c.rest}, api.OK)
	}
}

func TestDecodeOfAnyBytes(t *testing.T) {
	rng := rand.New(rand.NewSource(2))
	for _, k := range kinds {
		for range 5000 {
			b, e := k.encoded(k.random(rng))
			if e != api.OK || rng.Intn(4) == 0 {
				b = make([]byte, rng.Intn(30))
				rng.Read(b)
			}
			for range rng.Intn(3) {
				if len(b) > 0 {
					b[rng.Intn(len(b))] = byte(rng.Intn(256))
				}
			}
			b = b[:len(b)-min(len(b), max(0, rng.Intn(6)-3))]
			want, e := k.decoded(b)
			wantDecode(t, k, show(b), b, want, e)
		}
	}
}

// P6.3

func TestInverse(t *testing.T) {
	rng := rand.New(rand.NewSource(3))
	for _, k := range kinds {
		for range 2000 {
			c := k.random(rng)
			b, e := k.encode(c)
			if e != api.OK {
				continue
			}
			wantDecode(t, k, show(c), b, c, api.OK)
			wantEncode(t, k, show(c), c, b, api.OK)
		}
		for range 2000 {
			b := make([]byte, k.fixed()+rng.Intn(6))
			rng.Read(b)
			if c, e := k.decode(b); e == api.OK {
				wantEncode(t, k, show(b), c, b, api.OK)
			}
		}
	}
}

func TestListsKeepTheirOrder(t *testing.T) {
	l := list{{Id: 9}, {Id: 3, Data: []byte{1}}, {Id: 200, Subs: list{{Id: 8}, {Id: 2}, {Id: 5}}}, {Id: 3}, {Id: 0}, {Id: 3, Data: []byte{2}}}
	for _, k := range follows(followElems) {
		for range len(l) {
			l = append(slices.Clone(l[1:]), l[0])
			c := k.plain()
			c.elems = l
			wantAsDefined(t, k, show(l), c)
		}
	}
}

func TestReassociationWithoutOldIsAssociation(t *testing.T) {
	rng := rand.New(rand.NewSource(4))
	for range 2000 {
		c := reassocKind.random(rng)
		x := api.AssocReq{Caps: uint16(c.nums[0]), Listen: uint16(c.nums[1]), Old: oldOf(c.nums[2]), Elems: c.elems}
		again, e := body.EncodeAssocReq(x, true)
		x.Old = api.Addr{}
		first, firstE := body.EncodeAssocReq(x, false)
		if e != firstE {
			t.Fatalf("%s: errors %d and %d", show(c), e, firstE)
		}
		if e == api.OK && !bytes.Equal(slices.Delete(again, 4, 10), first) {
			t.Errorf("%s: without Old %s, as association %s", show(c), show(again), show(first))
		}
	}
}

// R2

// guarded returns a copy of a list whose slices all have further memory behind their lengths.
func guarded(l list) list {
	g := make(list, 0, len(l)+2)
	for _, x := range l {
		x.Data = guardedBytes(x.Data)
		x.Subs = guarded(x.Subs)
		g = append(g, x)
	}
	return append(g, elem{Id: 77, Data: []byte{9}}, elem{Id: 78})[:len(l)]
}

func guardedBytes(b []byte) []byte {
	return append(append(make([]byte, 0, len(b)+9), b...), 1, 2, 3, 4, 5, 6, 7, 8, 9)[:len(b)]
}

// whole returns all bytes of a content, those behind the lengths of its slices included.
func whole(c content) string {
	var add func(l list) []byte
	add = func(l list) []byte {
		var b []byte
		for _, x := range l[:cap(l)] {
			b = append(b, x.Id, x.Ext, byte(len(x.Data)), byte(len(x.Subs)))
			b = append(append(b, x.Data[:cap(x.Data)]...), add(x.Subs)...)
		}
		return b
	}
	return string(add(c.elems)) + string(c.data[:cap(c.data)])
}

// spoil changes all memory of a content, that behind the lengths of its slices included.
func spoil(c content) {
	var change func(l list)
	change = func(l list) {
		l = l[:cap(l)]
		for i := range l {
			spoilBytes(l[i].Data)
			change(l[i].Subs)
			l[i] = elem{Id: l[i].Id ^ 255, Data: []byte{1}}
		}
	}
	change(c.elems)
	spoilBytes(c.data)
}

func spoilBytes(b []byte) {
	b = b[:cap(b)]
	for i := range b {
		b[i] ^= 255
	}
}

func TestArgumentsOfEncode(t *testing.T) {
	rng := rand.New(rand.NewSource(5))
	for _, k := range kinds {
		for range 300 {
			c := k.random(rng)
			c.elems, c.data = guarded(c.elems), guardedBytes(c.data)
			before := whole(c)
			first, e := k.encode(c)
			if e != api.OK {
				continue
			}
			want := bytes.Clone(first)
			second, _ := k.encode(c)
			spoilBytes(first)
			if whole(c) != before {
				t.Fatalf("%s: the argument was changed, or the result shares memory with it: %s", k.name, show(c))
			}
			if !bytes.Equal(second, want) {
				t.Fatalf("%s: two results share memory: %s", k.name, show(c))
			}
		}
	}
}

func TestArgumentsOfDecode(t *testing.T) {
	rng := rand.New(rand.NewSource(6))
	for _, k := range kinds {
		for range 300 {
			c := k.random(rng)
			b, e := k.encoded(c)
			if e != api.OK {
				continue
			}
			b = guardedBytes(b)
			all := b[:cap(b)]
			before := bytes.Clone(all)
			first, e := k.decode(b)
			second, _ := k.decode(b)
			if e != api.OK || !equal(first, c) {
				t.Fatalf("%s: Decode saw behind its argument: %s %d", k.name, show(first), e)
			}
			spoil(first)
			if !bytes.Equal(all, before) {
				t.Fatalf("%s: the argument was changed, or the result shares memory with it: %s", k.name, show(c))
			}
			spoilBytes(b)
			if !equal(second, c) {
				t.Fatalf("%s: a result shares memory with another or with the argument: %s", k.name, show(c))
			}
		}
	}
}

// R3

func TestNilAndEmptyAreEqual(t *testing.T) {
	for _, k := range kinds {
		c, d := k.plain(), k.plain()
		d.elems, d.data = list{}, []byte{}
		wantEncode(t, k, "nil", c, k.front(c), api.OK)
		wantEncode(t, k, "empty", d, k.front(c), api.OK)
		wantDecodeError(t, k, "no bytes", []byte{}, api.ErrShort)
	}
}

// R7

// TestListsWithoutEnd has lists that contain themselves, which have no end.
func TestListsWithoutEnd(t *testing.T) {
	for _, k := range follows(followElems) {
		c := k.plain()
		c.elems = row(2)
		c.elems[1] = elem{Id: 200, Subs: c.elems}
		wantEncode(t, k, "a list that contains itself", c, nil, api.ErrMany)
		c.elems[1] = elem{}
	}
}

func FuzzDecode(f *testing.F) {
	for i, k := range kinds {
		f.Add(i, k.front(k.plain()))
		f.Add(i, append(k.front(k.plain()), 7, 2, 1, 2, 200, 2, 1, 0))
	}
	f.Add(0, make([]byte, 2305))
	f.Fuzz(func(t *testing.T, which int, b []byte) {
		k := kinds[uint(which)%uint(len(kinds))]
		want, e := k.decoded(b)
		wantDecode(t, k, show(b), b, want, e)
		if e == api.OK {
			wantEncode(t, k, show(b), want, b, api.OK)
		}
	})
}
