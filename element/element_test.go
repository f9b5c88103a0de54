package element_test

import (
	"bytes"
	"fmt"
	"math/rand"
	"slices"
	"testing"

	"hotspot/api"
	"hotspot/element"
)

type (
	elem = api.Element
	list = []api.Element
)

// encoding returns the encoding of a list, as the definition says it.
func encoding(l list) []byte {
	var b []byte
	for _, x := range l {
		c := x.Data
		if x.Id >= 200 && x.Id <= 219 {
			c = encoding(x.Subs)
		}
		if x.Id == 255 {
			c = slices.Concat([]byte{x.Ext}, c)
		}
		full := len(c) / 255
		for i := range full + 1 {
			part := c[255*i : min(255*i+255, len(c))]
			front := byte(254)
			if i == 0 {
				front = x.Id
			}
			b = slices.Concat(b, []byte{front, byte(len(part))}, part)
		}
	}
	return b
}

// checkError returns what Check has to return: each limit is looked for in the whole list before the next one.
func checkError(l list) api.Errno {
	n, deepest, bad, long := 0, 0, false, false
	var look func(l list, depth int)
	look = func(l list, depth int) {
		for _, x := range l {
			n, deepest = n+1, max(deepest, depth)
			box := x.Id/20 == 10
			bad = bad || x.Id == 254 || x.Id != 255 && x.Ext > 0 || box && len(x.Data) > 0 || !box && len(x.Subs) > 0
			long = long || len(x.Data) > 1024 || len(encoding(x.Subs)) > 1024
			look(x.Subs, depth+1)
		}
	}
	look(l, 1)
	switch {
	case n > 64 || deepest > 4:
		return api.ErrMany
	case bad:
		return api.ErrBad
	case long:
		return api.ErrLong
	}
	return api.OK
}

// decoded returns what Decode has to return. It goes through a stack of contents that are not read to their end.
func decoded(b []byte) (list, api.Errno) {
	type level struct {
		left []byte
		into *list
	}
	var l list
	stack := []level{{b, &l}}
	for n := 0; len(stack) > 0; {
		top := &stack[len(stack)-1]
		if len(top.left) == 0 {
			stack = stack[:len(stack)-1]
			continue
		}
		if n++; n > 64 {
			return nil, api.ErrMany
		}
		id := top.left[0]
		if id == 254 {
			return nil, api.ErrForm
		}
		var content []byte
		for more := true; more; {
			if len(content) > 0 && len(top.left) > 0 && top.left[0] != 254 {
				return nil, api.ErrForm
			}
			if len(top.left) < 2 || len(top.left) < 2+int(top.left[1]) {
				return nil, api.ErrShort
			}
			end := 2 + int(top.left[1])
			content = append(content, top.left[2:end]...)
			more = end == 257
			top.left = top.left[end:]
		}
		x := elem{Id: id}
		data := content
		if id == 255 && len(data) > 0 {
			x.Ext, data = data[0], data[1:]
		}
		switch {
		case len(data) > 1024:
			return nil, api.ErrLong
		case id == 255 && len(content) == 0:
			return nil, api.ErrForm
		case id < 200 || id > 219:
			x.Data = data
		case len(stack) == 4 && len(data) > 0:
			return nil, api.ErrMany
		}
		*top.into = append(*top.into, x)
		if id >= 200 && id <= 219 {
			into := *top.into
			stack = append(stack, level{data, &into[len(into)-1].Subs})
		}
	}
	return l, api.OK
}

// equal compares lists; nil and empty slices are equal.
func equal(a, b list) bool {
	if len(a) != len(b) {
		return false
	}
	for i, x := range a {
		y := b[i]
		if x.Id != y.Id || x.Ext != y.Ext || string(x.Data) != string(y.Data) || !equal(x.Subs, y.Subs) {
			return false
		}
	}
	return true
}

func count(l list) int {
	n := len(l)
	for _, x := range l {
		n += count(x.Subs)
	}
	return n
}

// counted returns n bytes, 1, 2, 3 and so on.
func counted(n int) []byte {
	b := make([]byte, n)
	for i := range b {
		b[i] = byte(i + 1)
	}
	return b
}

// nested returns an element in as many containers as depth says, less one.
func nested(depth int, x elem) elem {
	for range depth - 1 {
		x = elem{Id: 200, Subs: list{x}}
	}
	return x
}

// row returns n elements without data.
func row(n int) list {
	l := make(list, n)
	for i := range l {
		l[i].Id = byte(i % 200)
	}
	return l
}

var interestingIds = []uint8{0, 1, 7, 199, 200, 201, 210, 219, 220, 253, 255}

var interestingSizes = []int{0, 1, 2, 3, 10, 100, 252, 253, 254, 255, 256, 257, 508, 509, 510, 511, 765, 1019, 1020, 1021, 1023, 1024}

// someList returns a valid list, often within the limits.
func someList(rng *rand.Rand, depth int) list {
	var l list
	for range rng.Intn(5) {
		x := elem{Id: interestingIds[rng.Intn(len(interestingIds))]}
		if rng.Intn(3) == 0 {
			x.Id = byte(rng.Intn(254))
		}
		switch {
		case x.Id >= 200 && x.Id <= 219:
			if depth < 4 {
				x.Subs = someList(rng, depth+1)
			}
		default:
			x.Data = make([]byte, rng.Intn(5))
			if rng.Intn(6) == 0 {
				x.Data = make([]byte, interestingSizes[rng.Intn(len(interestingSizes))])
			}
			rng.Read(x.Data)
		}
		if x.Id == 255 {
			x.Ext = byte(rng.Intn(256))
		}
		l = append(l, x)
	}
	return l
}

// goodLists are valid lists within the limits.
func goodLists(seed int64, n int) []list {
	rng := rand.New(rand.NewSource(seed))
	l := []list{nil, {}, row(64), {nested(4, elem{Id: 1})}, {nested(4, elem{Id: 200})}}
	for len(l) < n {
		if x := someList(rng, 1); checkError(x) == api.OK {
			l = append(l, x)
		}
	}
	return l
}

// anyLists are lists of which most are not valid or beyond the limits.
func anyLists(seed int64, n int) []list {
	rng := rand.New(rand.NewSource(seed))
	var some func(depth int) list
	some = func(depth int) list {
		var l list
		for range rng.Intn(4) {
			x := elem{Id: []uint8{0, 1, 200, 219, 254, 255}[rng.Intn(6)], Ext: uint8(rng.Intn(2)), Data: counted(rng.Intn(3))}
			if rng.Intn(2) == 0 {
				x.Ext, x.Data = 0, nil
			}
			if rng.Intn(30) == 0 {
				x.Data = make([]byte, 1020+rng.Intn(10))
			}
			if depth < 6 && rng.Intn(2) == 0 {
				x.Subs = some(depth + 1)
			}
			l = append(l, x)
		}
		return l
	}
	l := []list{row(65), row(100), {nested(5, elem{Id: 1})}, {nested(9, elem{Id: 254})}}
	for len(l) < n {
		l = append(l, some(1))
	}
	return l
}

// show writes a list shortly enough for a message.
func show(v any) string {
	s := fmt.Sprint(v)
	if len(s) > 200 {
		return s[:200] + fmt.Sprintf(".. (%d characters)", len(s))
	}
	return s
}

// wantCheck checks the results of the three functions that return Check's error.
func wantCheck(t *testing.T, what string, l list, want api.Errno) {
	t.Helper()
	if e := element.Check(l); e != want {
		t.Errorf("%s: Check returns %d, want %d", what, e, want)
	}
	var code []byte
	if want == api.OK {
		code = encoding(l)
	}
	if b, e := element.Encode(l); e != want || !bytes.Equal(b, code) {
		t.Errorf("%s: Encode returns %s %d, want %s %d", what, show(b), e, show(code), want)
	}
	if n, e := element.Size(l); e != want || n != len(code) {
		t.Errorf("%s: Size returns %d %d, want %d %d", what, n, e, len(code), want)
	}
}

func wantDecode(t *testing.T, what string, b []byte, want list, wantE api.Errno) {
	t.Helper()
	if l, e := element.Decode(b); e != wantE || !equal(l, want) || e != api.OK && len(l) > 0 {
		t.Errorf("%s: Decode returns %s %d, want %s %d", what, show(l), e, show(want), wantE)
	}
}

// P4.1

func TestKnownEncodings(t *testing.T) {
	cases := []struct {
		l list
		b []byte
	}{
		{nil, nil},
		{list{}, nil},
		{list{{}}, []byte{0, 0}},
		{list{{Id: 7, Data: []byte{1, 2}}}, []byte{7, 2, 1, 2}},
		{list{{Id: 255, Ext: 9, Data: []byte{1, 2}}}, []byte{255, 3, 9, 1, 2}},
		{list{{Id: 255}}, []byte{255, 1, 0}},
		{list{{Id: 255, Ext: 254}}, []byte{255, 1, 254}},
		{list{{Id: 7, Data: counted(255)}}, slices.Concat([]byte{7, 255}, counted(255), []byte{254, 0})},
		{list{{Id: 200, Subs: list{{Id: 7, Data: []byte{1, 2}}}}}, []byte{200, 4, 7, 2, 1, 2}},
		{list{{Id: 219}}, []byte{219, 0}},
		{list{{Id: 199, Data: []byte{5}}, {Id: 220, Data: []byte{6}}}, []byte{199, 1, 5, 220, 1, 6}},
		{list{{Id: 253, Data: []byte{254, 254}}}, []byte{253, 2, 254, 254}},
		{list{nested(4, elem{Id: 3, Data: []byte{4}})}, []byte{200, 7, 200, 5, 200, 3, 3, 1, 4}},
		{list{{Id: 200, Subs: list{{Id: 1}, {Id: 201, Subs: list{{Id: 2}}}, {Id: 3}}}, {Id: 4}}, []byte{200, 8, 1, 0, 201, 2, 2, 0, 3, 0, 4, 0}},
		{list{{Id: 255, Ext: 8, Data: counted(254)}}, slices.Concat([]byte{255, 255, 8}, counted(254), []byte{254, 0})},
		{list{{Id: 255, Ext: 8, Data: counted(256)}}, slices.Concat([]byte{255, 255, 8}, counted(256)[:254], []byte{254, 2, 255, 0})},
		{
			list{{Id: 200, Subs: list{{Id: 7, Data: counted(255)}}}},
			slices.Concat([]byte{200, 255, 7, 255}, counted(253), []byte{254, 4, 254, 255, 254, 0}),
		},
	}
	for _, c := range cases {
		what := show(c.l)
		if b, e := element.Encode(c.l); e != api.OK || !bytes.Equal(b, c.b) {
			t.Errorf("%s: %s %d, want %s", what, show(b), e, show(c.b))
		}
		if n, e := element.Size(c.l); e != api.OK || n != len(c.b) {
			t.Errorf("%s: size %d %d, want %d", what, n, e, len(c.b))
		}
		if e := element.Check(c.l); e != api.OK {
			t.Errorf("%s: Check returns %d", what, e)
		}
		wantDecode(t, what, c.b, c.l, api.OK)
	}
}

func TestAllSizesOfData(t *testing.T) {
	for n := range 1025 {
		for _, x := range []elem{{Id: 5}, {Id: 255, Ext: 3}} {
			x.Data = counted(n)
			wantCheck(t, fmt.Sprintf("%d bytes in %d", n, x.Id), list{x, {Id: 1}}, api.OK)
		}
	}
}

func TestAllIds(t *testing.T) {
	for id := range 256 {
		id := uint8(id)
		plain, full, box := api.OK, api.OK, api.ErrBad
		if id >= 200 && id <= 219 {
			full, box = api.ErrBad, api.OK
		}
		if id == 254 {
			plain, full = api.ErrBad, api.ErrBad
		}
		wantExt := api.ErrBad
		if id == 255 {
			wantExt = api.OK
		}
		for depth := 1; depth <= 3; depth++ {
			what := fmt.Sprintf("Id %d at depth %d", id, depth)
			wantCheck(t, what, list{nested(depth, elem{Id: id})}, plain)
			wantCheck(t, what+" with data", list{nested(depth, elem{Id: id, Data: []byte{1}})}, full)
			wantCheck(t, what+" with a sub", list{nested(depth, elem{Id: id, Subs: row(1)})}, box)
			wantCheck(t, what+" with both", list{nested(depth, elem{Id: id, Data: []byte{1}, Subs: row(1)})}, api.ErrBad)
			wantCheck(t, what+" with empty slices", list{nested(depth, elem{Id: id, Data: []byte{}, Subs: list{}})}, plain)
			for _, ext := range []uint8{1, 9, 255} {
				wantCheck(t, what+" with Ext", list{nested(depth, elem{Id: id, Ext: ext})}, wantExt)
			}
		}
	}
}

func TestBadAnywhere(t *testing.T) {
	for _, bad := range []elem{{Id: 254}, {Id: 1, Ext: 1}, {Id: 200, Data: []byte{1}}, {Id: 1, Subs: row(1)}} {
		for at := range 5 {
			l := slices.Insert(row(4), at, bad)
			wantCheck(t, fmt.Sprint("bad at ", at), l, api.ErrBad)
			for id := 200; id <= 219; id++ {
				wantCheck(t, fmt.Sprint("bad sub at ", at), list{{Id: 1}, {Id: uint8(id), Subs: l}, {Id: 2}}, api.ErrBad)
			}
		}
	}
}

func TestCheckMany(t *testing.T) {
	box := func(subs list) elem { return elem{Id: 210, Subs: subs} }
	cases := []struct {
		what string
		l    list
		want api.Errno
	}{
		{"64", row(64), api.OK},
		{"65", row(65), api.ErrMany},
		{"1000", row(1000), api.ErrMany},
		{"a container of 63", list{box(row(63))}, api.OK},
		{"a container of 64", list{box(row(64))}, api.ErrMany},
		{"two containers of 31", list{box(row(31)), box(row(31))}, api.OK},
		{"two containers of 31, and one more", list{box(row(31)), box(row(31)), {Id: 1}}, api.ErrMany},
		{"two containers of 31 and 32", list{box(row(31)), box(row(32))}, api.ErrMany},
		{"64 at three depths", append(list{box(append(row(20), box(row(21))))}, row(21)...), api.OK},
		{"65 at three depths", append(list{box(append(row(20), box(row(21))))}, row(22)...), api.ErrMany},
		{"64, the last one nested", append(row(60), nested(4, elem{})), api.OK},
		{"65, the last one nested", append(row(61), nested(4, elem{})), api.ErrMany},
		{"depth 4", list{nested(4, elem{Id: 1, Data: []byte{1}})}, api.OK},
		{"depth 5", list{nested(5, elem{Id: 1, Data: []byte{1}})}, api.ErrMany},
		{"an empty container at depth 4", list{nested(4, elem{Id: 200})}, api.OK},
		{"an empty container at depth 5", list{nested(5, elem{Id: 200})}, api.ErrMany},
		{"depth 5 at the end", list{{Id: 1}, nested(4, elem{}), nested(5, elem{})}, api.ErrMany},
		{"depth 10000", list{nested(10000, elem{})}, api.ErrMany},
		{"65 in what is no container", list{{Id: 1, Subs: row(64)}}, api.ErrMany},
		{"64 in what is no container", list{{Id: 1, Subs: row(63)}}, api.ErrBad},
	}
	for _, c := range cases {
		wantCheck(t, c.what, c.l, c.want)
	}
}

func TestCheckLong(t *testing.T) {
	data := func(n int) elem { return elem{Id: 3, Data: make([]byte, n)} }
	withExt := func(n int) elem { return elem{Id: 255, Ext: 1, Data: make([]byte, n)} }
	box := func(subs ...elem) elem { return elem{Id: 219, Subs: subs} }
	cases := []struct {
		what string
		l    list
		want api.Errno
	}{
		{"1024 bytes", list{data(1024)}, api.OK},
		{"1024 bytes with Ext", list{withExt(1024)}, api.OK},
		{"1025 bytes", list{data(1025)}, api.ErrLong},
		{"1025 bytes at the end", list{{Id: 1}, data(1025)}, api.ErrLong},
		{"100000 bytes", list{data(100000)}, api.ErrLong},
		{"1025 bytes with Ext", list{withExt(1025)}, api.ErrLong},
		{"a sub of 1024 bytes", list{box(data(1016))}, api.OK}, // 1,016 and 4 parts
		{"a sub of 1025 bytes", list{box(data(1017))}, api.ErrLong},
		{"two subs of 1024 bytes", list{box(data(500), data(514))}, api.OK}, // 1,014, 2 parts and 3 parts
		{"two subs of 1025 bytes", list{box(data(500), data(515))}, api.ErrLong},
		{"a sub with Ext of 1024 bytes", list{box(withExt(1015))}, api.OK},
		{"a sub with Ext of 1025 bytes", list{box(withExt(1016))}, api.ErrLong},
		{"a sub with 1024 bytes of data", list{box(data(1024))}, api.ErrLong},
		{"a sub with 1025 bytes of data", list{box(data(1025))}, api.ErrLong},
		{"a sub of a sub of 1025 bytes", list{box(box(data(1017)))}, api.ErrLong},
		{"a sub of a sub of 1024 bytes", list{box(box(data(1016)))}, api.ErrLong},
	}
	for _, c := range cases {
		wantCheck(t, c.what, c.l, c.want)
	}
	// The whole list may be longer.
	wantCheck(t, "64 elements of 1024 bytes", slices.Repeat(list{data(1024)}, 64), api.OK)
}

// TestSubsOfAllSizes finds the limit of a container's content for each depth of its elements.
func TestSubsOfAllSizes(t *testing.T) {
	for depth := 2; depth <= 4; depth++ {
		for n := 960; n <= 1025; n++ {
			l := list{nested(depth, elem{Id: 9, Data: counted(n)})}
			want := api.OK
			if n > 1024 || len(encoding(l[0].Subs)) > 1024 {
				want = api.ErrLong
			}
			wantCheck(t, fmt.Sprintf("%d bytes at depth %d", n, depth), l, want)
		}
	}
}

func TestOrderOfCheck(t *testing.T) {
	bad := elem{Id: 254}
	long := elem{Id: 1, Data: make([]byte, 1025)}
	cases := []struct {
		what string
		l    list
		want api.Errno
	}{
		{"bad before deep", list{bad, nested(5, elem{})}, api.ErrMany},
		{"long before deep", list{long, nested(5, elem{})}, api.ErrMany},
		{"deep before bad", list{nested(5, elem{}), bad}, api.ErrMany},
		{"bad and long before many", append(list{bad, long}, row(63)...), api.ErrMany},
		{"bad and long, 64", append(list{bad, long}, row(62)...), api.ErrBad},
		{"long, 64", append(list{long}, row(63)...), api.ErrLong},
		{"long before bad", list{long, bad}, api.ErrBad},
		{"bad before long", list{bad, long}, api.ErrBad},
		{"long before a bad sub", list{long, nested(4, bad)}, api.ErrBad},
		{"a bad sub before long", list{nested(4, bad), long}, api.ErrBad},
		{"both at once", list{{Id: 254, Data: make([]byte, 1025)}}, api.ErrBad},
		{"a container with long data", list{{Id: 200, Data: make([]byte, 1025)}}, api.ErrBad},
		{"a deep element that is bad", list{nested(5, bad)}, api.ErrMany},
		{"deep subs of a bad element", list{{Id: 254, Subs: list{nested(4, elem{})}}}, api.ErrMany},
	}
	for _, c := range cases {
		wantCheck(t, c.what, c.l, c.want)
	}
}

func TestCheckOfAnyLists(t *testing.T) {
	seen := map[api.Errno]int{}
	for _, l := range slices.Concat(anyLists(1, 20000), goodLists(2, 2000)) {
		want := checkError(l)
		seen[want]++
		wantCheck(t, show(l), l, want)
	}
	for _, e := range []api.Errno{api.OK, api.ErrMany, api.ErrBad} {
		if seen[e] < 100 {
			t.Errorf("only %d lists with the error %d", seen[e], e)
		}
	}
}

// P4.2

func TestDecodeErrors(t *testing.T) {
	full := func(front ...byte) []byte { return append(front, make([]byte, 255)...) }
	cases := []struct {
		what string
		b    []byte
		want api.Errno
	}{
		{"no length", []byte{1}, api.ErrShort},
		{"no part", []byte{1, 1}, api.ErrShort},
		{"a part of 1 instead of 2", []byte{1, 2, 0}, api.ErrShort},
		{"a part of 254 instead of 255", full(1, 255)[:256], api.ErrShort},
		{"a length in the second element", []byte{1, 0, 2}, api.ErrShort},
		{"254 in front", []byte{254, 0}, api.ErrForm},
		{"254 alone", []byte{254}, api.ErrForm},
		{"254 after a short part", []byte{1, 1, 1, 254, 0}, api.ErrForm},
		{"254 after a last part", append(full(1, 255), 254, 0, 254, 0), api.ErrForm},
		{"254 after a part of 254", slices.Concat([]byte{1, 254}, make([]byte, 254), []byte{254, 0}), api.ErrForm},
		{"254 in a container", []byte{200, 2, 254, 0}, api.ErrForm},
		{"255 without content", []byte{255, 0}, api.ErrForm},
		{"255 without length", []byte{255}, api.ErrShort},
		{"255 without content in a container", []byte{200, 2, 255, 0}, api.ErrForm},
		{"no further part", full(1, 255), api.ErrShort},
		{"a further part without length", append(full(1, 255), 254), api.ErrShort},
		{"a further part that is short", append(full(1, 255), 254, 3, 1, 2), api.ErrShort},
		{"another element instead of a further part", append(full(1, 255), 1, 0), api.ErrForm},
		{"another byte instead of a further part", append(full(1, 255), 255), api.ErrForm},
		{"253 instead of 254", append(full(1, 255), 253, 0), api.ErrForm},
		{"another element after two parts", slices.Concat(full(1, 255), full(254, 255), []byte{1, 0}), api.ErrForm},
		{"no third part", slices.Concat(full(1, 255), full(254, 255)), api.ErrShort},
		{"a short sub", []byte{200, 1, 1}, api.ErrShort},
		{"a sub that goes on behind its container", []byte{200, 2, 1, 1, 5}, api.ErrShort},
		{"a sub whose further part is behind its container", append(raw(200, full(1, 255)), 254, 0), api.ErrShort},
		{"a sub of a sub that is short", []byte{200, 4, 201, 2, 1, 1}, api.ErrShort},
		{"a container that is short", []byte{200, 3, 1, 0}, api.ErrShort},
		{"a container at depth 4 with one byte", []byte{200, 7, 201, 5, 202, 3, 203, 1, 1}, api.ErrMany},
		{"a container at depth 4 with content", []byte{200, 8, 201, 6, 202, 4, 203, 2, 204, 0}, api.ErrMany},
		{"a container at depth 4 with bad content", []byte{200, 8, 201, 6, 202, 4, 203, 2, 254, 0}, api.ErrMany},
		{"a container at depth 4 that is short", []byte{200, 7, 201, 5, 202, 3, 203, 2, 1}, api.ErrShort},
	}
	for _, c := range cases {
		wantDecode(t, c.what, c.b, nil, c.want)
		wantDecode(t, "behind an element: "+c.what, append([]byte{9, 1, 9}, c.b...), nil, c.want)
	}
	wantDecode(t, "an empty container at depth 4", []byte{200, 6, 201, 4, 202, 2, 203, 0}, list{{Id: 200, Subs: list{{Id: 201, Subs: list{{Id: 202, Subs: list{{Id: 203}}}}}}}}, api.OK)
	wantDecode(t, "nothing", nil, nil, api.OK)
	wantDecode(t, "no bytes", []byte{}, nil, api.OK)
}

// raw returns an element of the given Id and content, with no limits.
func raw(id byte, content []byte) []byte {
	var b []byte
	for ; len(content) >= 255; content = content[255:] {
		b = slices.Concat(b, []byte{id, 255}, content[:255])
		id = 254
	}
	return slices.Concat(b, []byte{id, byte(len(content))}, content)
}

func TestDecodeLong(t *testing.T) {
	for _, n := range []int{1024, 1025, 1026, 1275, 5000, 100000} {
		c := make([]byte, n)
		wantE := api.OK
		var want list
		if n > 1024 {
			wantE = api.ErrLong
		} else {
			want = list{{Id: 1, Data: c}}
		}
		wantDecode(t, fmt.Sprintf("%d bytes", n), raw(1, c), want, wantE)
		wantE, want = api.OK, nil
		if n > 1025 {
			wantE = api.ErrLong
		} else {
			want = list{{Id: 255, Data: c[1:]}}
		}
		wantDecode(t, fmt.Sprintf("%d bytes with Ext", n), raw(255, c), want, wantE)
	}
	subs := slices.Repeat([]byte{1, 30, 0, 0, 0, 0, 0, 0, 0, 0, 0, 0, 0, 0, 0, 0, 0, 0, 0, 0, 0, 0, 0, 0, 0, 0, 0, 0, 0, 0, 0, 0}, 32)
	want := list{{Id: 219, Subs: slices.Repeat(list{{Id: 1, Data: make([]byte, 30)}}, 32)}}
	wantDecode(t, "subs of 1024 bytes", raw(219, subs), want, api.OK)
	wantDecode(t, "subs of 1025 bytes", raw(219, append(subs, 1)), nil, api.ErrLong)
	wantDecode(t, "subs of 1026 bytes", raw(219, append(subs, 1, 0)), nil, api.ErrLong)
	wantDecode(t, "bad subs of 1025 bytes", raw(219, slices.Repeat([]byte{254}, 1025)), nil, api.ErrLong)
	wantDecode(t, "bad subs of 1024 bytes", raw(219, slices.Repeat([]byte{254}, 1024)), nil, api.ErrForm)
}

func TestOrderOfDecode(t *testing.T) {
	long := raw(1, make([]byte, 2000))
	cases := []struct {
		what string
		b    []byte
		want api.Errno
	}{
		{"long and short", long[:len(long)-1], api.ErrShort},
		{"long, but the parts end early", long[:7*257], api.ErrShort},
		{"long, and followed by another byte", append(slices.Clone(long[:7*257]), 1), api.ErrForm},
		{"long before short", append(slices.Clone(long), 1), api.ErrLong},
		{"long before 254", append(slices.Clone(long), 254), api.ErrLong},
		{"short before long", append([]byte{200, 1, 1}, long...), api.ErrShort},
		{"254 with no length", []byte{1, 0, 254}, api.ErrForm},
		{"a bad sub before a long element", append([]byte{200, 2, 254, 0}, long...), api.ErrForm},
		{"a bad sub before a short element", []byte{200, 2, 254, 0, 1}, api.ErrForm},
		{"a short sub before 254", []byte{200, 1, 1, 254}, api.ErrShort},
		{"a container that is too deep before 254", append(raw(200, raw(200, raw(200, raw(200, []byte{1})))), 254), api.ErrMany},
		{"a long container that is short inside", raw(200, append(long, 1)), api.ErrLong},
		{"a container with bad content that is not complete", []byte{200, 5, 254, 0}, api.ErrShort},
		{"a container whose part is followed by another byte, before its short sub", slices.Concat([]byte{200, 255, 1, 255}, make([]byte, 253), []byte{7}), api.ErrForm},
	}
	for _, c := range cases {
		wantDecode(t, c.what, c.b, nil, c.want)
	}
	deep := func(x []byte) []byte { return raw(200, raw(200, raw(200, x))) }
	wantDecode(t, "a container at depth 4 with 900 bytes", deep(raw(200, make([]byte, 900))), nil, api.ErrMany)
}

func TestDecodeMany(t *testing.T) {
	rows := func(n int) []byte { return encoding(row(n)) }
	wantDecode(t, "64", rows(64), row(64), api.OK)
	wantDecode(t, "65", rows(65), nil, api.ErrMany)
	for what, more := range map[string][]byte{
		"no length": {1}, "254": {254}, "254 with length": {254, 0}, "255 without content": {255, 0},
		"a container": {200, 0}, "a long element": raw(1, make([]byte, 2000)), "a short element": {1, 9, 9},
	} {
		wantDecode(t, "64 and "+what, append(rows(64), more...), nil, api.ErrMany)
		_, e := decoded(append(rows(63), more...))
		if _, got := element.Decode(append(rows(63), more...)); got != e {
			t.Errorf("63 and %s: error %d, want %d", what, got, e)
		}
	}
	wantDecode(t, "a container of 63", raw(200, rows(63)), list{{Id: 200, Subs: row(63)}}, api.OK)
	wantDecode(t, "a container of 64", raw(200, rows(64)), nil, api.ErrMany)
	wantDecode(t, "a container of 63, and one more", append(raw(200, rows(63)), 1, 0), nil, api.ErrMany)
	wantDecode(t, "a container as the last one", append(rows(63), 200, 0), append(row(63), elem{Id: 200}), api.OK)
	wantDecode(t, "a sub in the last one", append(rows(63), 200, 2, 1, 0), nil, api.ErrMany)
	wantDecode(t, "a short sub in the last one", append(rows(63), 200, 1, 1), nil, api.ErrMany)
	wantDecode(t, "a short sub in the last one but one", append(rows(62), 200, 1, 1), nil, api.ErrShort)
	wantDecode(t, "a bad sub in the last one", append(rows(63), 200, 2, 254, 0), nil, api.ErrMany)
	two := append(raw(200, rows(31)), raw(201, rows(31))...)
	wantDecode(t, "two containers of 31", two, list{{Id: 200, Subs: row(31)}, {Id: 201, Subs: row(31)}}, api.OK)
	wantDecode(t, "two containers of 31, and one more", append(two, 1, 0), nil, api.ErrMany)
	four := append(rows(60), raw(200, raw(200, raw(200, []byte{1, 0})))...)
	wantDecode(t, "64 with four depths", four, append(row(60), nested(4, elem{Id: 1})), api.OK)
	wantDecode(t, "65 with four depths", append([]byte{9, 0}, four...), nil, api.ErrMany)
}

// TestDecodeOfShortStrings goes through all strings of some bytes up to a length.
func TestDecodeOfShortStrings(t *testing.T) {
	some := []byte{0, 1, 2, 3, 200, 219, 254, 255}
	var b []byte
	var grow func()
	grow = func() {
		want, e := decoded(b)
		wantDecode(t, fmt.Sprint(b), b, want, e)
		if len(b) == 6 {
			return
		}
		for _, c := range some {
			b = append(b, c)
			grow()
			b = b[:len(b)-1]
		}
	}
	grow()
}

func TestDecodeOfDamagedEncodings(t *testing.T) {
	rng := rand.New(rand.NewSource(3))
	seen := map[api.Errno]int{}
	for _, l := range goodLists(4, 3000) {
		b := encoding(l)
		for range 10 {
			d := slices.Clone(b)
			for range 1 + rng.Intn(3) {
				at := rng.Intn(len(d) + 1)
				switch c := []byte{0, 1, 200, 254, 255, byte(rng.Intn(256))}[rng.Intn(6)]; {
				case rng.Intn(8) == 0:
					d = d[:at]
				case rng.Intn(8) == 0:
					d = slices.Insert(d, at, c)
				case rng.Intn(8) == 0:
					d = slices.Insert(d, at, encoding(row(40))...)
				case rng.Intn(8) == 0:
					d = slices.Insert(d, at, raw(c, make([]byte, 1024+rng.Intn(3)))...)
				case at < len(d) && rng.Intn(2) == 0:
					d[at] = c
				case at+2 <= len(d):
					d = slices.Delete(d, at, at+2)
				}
			}
			want, e := decoded(d)
			seen[e]++
			wantDecode(t, show(d), d, want, e)
		}
	}
	for _, e := range []api.Errno{api.OK, api.ErrMany, api.ErrShort, api.ErrForm, api.ErrLong} {
		if seen[e] < 10 {
			t.Errorf("only %d strings with the error %d", seen[e], e)
		}
	}
}

// P4.3

func TestFind(t *testing.T) {
	inner := list{{Id: 8, Data: []byte{1}}}
	l := list{
		{Id: 1, Data: []byte{1}}, {Id: 200, Subs: inner}, {Id: 255, Ext: 4, Data: []byte{2}}, {Id: 255, Ext: 5, Data: []byte{3}},
		{Id: 1, Data: []byte{4}}, {Id: 255, Ext: 5, Data: []byte{5}}, {Id: 1, Ext: 5, Data: []byte{6}}, {Id: 254, Data: []byte{7}, Subs: inner},
	}
	cases := []struct {
		id, ext uint8
		at      int
	}{{1, 0, 0}, {200, 0, 1}, {255, 4, 2}, {255, 5, 3}, {1, 5, 6}, {254, 0, 7}, {8, 0, -1}, {255, 0, -1}, {0, 0, -1}, {200, 1, -1}, {5, 255, -1}, {5, 1, -1}}
	for _, c := range cases {
		x, is := element.Find(l, c.id, c.ext)
		var want elem
		if c.at >= 0 {
			want = l[c.at]
		}
		if is != (c.at >= 0) || !equal(list{x}, list{want}) {
			t.Errorf("Find of %d %d: %v %v", c.id, c.ext, x, is)
		}
	}
	for _, none := range []list{nil, {}} {
		if x, is := element.Find(none, 0, 0); is || !equal(list{x}, list{{}}) {
			t.Errorf("Find in nothing: %v %v", x, is)
		}
	}
	if x, is := element.Find(list{{}}, 0, 0); !is || !equal(list{x}, list{{}}) {
		t.Errorf("Find of the zero element: %v %v", x, is)
	}
}

func TestRemove(t *testing.T) {
	inner := list{{Id: 1, Data: []byte{9}}, {Id: 2}}
	l := list{{Id: 1}, {Id: 1, Data: []byte{1}}, {Id: 200, Subs: inner}, {Id: 255, Ext: 1}, {Id: 1}, {Id: 255, Ext: 2}, {Id: 1, Ext: 2}, {Id: 254}}
	cases := []struct {
		id, ext uint8
		kept    []int
	}{
		{1, 0, []int{2, 3, 5, 6, 7}},
		{255, 1, []int{0, 1, 2, 4, 5, 6, 7}},
		{255, 2, []int{0, 1, 2, 3, 4, 6, 7}},
		{1, 2, []int{0, 1, 2, 3, 4, 5, 7}},
		{254, 0, []int{0, 1, 2, 3, 4, 5, 6}},
		{200, 0, []int{0, 1, 3, 4, 5, 6, 7}},
		{2, 0, []int{0, 1, 2, 3, 4, 5, 6, 7}},
		{255, 0, []int{0, 1, 2, 3, 4, 5, 6, 7}},
	}
	for _, c := range cases {
		var want list
		for _, i := range c.kept {
			want = append(want, l[i])
		}
		if got := element.Remove(l, c.id, c.ext); !equal(got, want) {
			t.Errorf("Remove of %d %d: %v, want %v", c.id, c.ext, got, want)
		}
	}
	for _, one := range []list{nil, {}, {{Id: 3}}, {{Id: 3}, {Id: 3, Data: []byte{1}}}} {
		if got := element.Remove(one, 3, 0); len(got) != 0 {
			t.Errorf("Remove of all of %v: %v", one, got)
		}
	}
}

func TestSame(t *testing.T) {
	l := list{{Id: 1, Data: []byte{1, 2}}, {Id: 255, Ext: 3}, {Id: 200, Subs: list{{Id: 1}, {Id: 201, Subs: list{{Id: 2, Data: []byte{3}}}}}}}
	others := []list{
		nil, l[:2], l[1:], append(slices.Clone(l), elem{}), {l[0], l[2], l[1]}, {l[0], l[1], l[1]},
		{{Id: 2, Data: []byte{1, 2}}, l[1], l[2]},
		{{Id: 1, Data: []byte{1}}, l[1], l[2]},
		{{Id: 1, Data: []byte{1, 3}}, l[1], l[2]},
		{{Id: 1, Data: []byte{1, 2, 0}}, l[1], l[2]},
		{{Id: 1}, l[1], l[2]},
		{{Id: 1, Ext: 1, Data: []byte{1, 2}}, l[1], l[2]},
		{{Id: 1, Data: []byte{1, 2}, Subs: list{{}}}, l[1], l[2]},
		{l[0], {Id: 255, Ext: 4}, l[2]},
		{l[0], l[1], {Id: 200, Subs: list{{Id: 1}}}},
		{l[0], l[1], {Id: 200, Subs: list{{Id: 1}, {Id: 201, Subs: list{{Id: 2, Data: []byte{4}}}}}}},
		{l[0], l[1], {Id: 200, Subs: list{{Id: 1}, {Id: 201, Subs: list{{Id: 2, Ext: 1, Data: []byte{3}}}}}}},
		{l[0], l[1], {Id: 200, Subs: list{{Id: 1}, {Id: 202, Subs: list{{Id: 2, Data: []byte{3}}}}}}},
		{l[0], l[1], {Id: 200, Subs: list{{Id: 1}, {Id: 201}}}},
		{l[0], l[1], {Id: 200, Data: []byte{1}, Subs: l[2].Subs}},
	}
	if !element.Same(l, l) {
		t.Error("a list is not the same as itself")
	}
	for i, o := range others {
		if element.Same(l, o) || element.Same(o, l) {
			t.Errorf("list %d is the same: %v", i, o)
		}
		if !element.Same(o, o) {
			t.Errorf("list %d is not the same as itself", i)
		}
	}
	empty := list{{Id: 1, Data: []byte{}, Subs: list{}}, {Id: 200, Subs: list{{Data: []byte{}}}}}
	null := list{{Id: 1}, {Id: 200, Subs: list{{Subs: list{}}}}}
	if !element.Same(empty, null) || !element.Same(null, empty) || !element.Same(nil, list{}) || !element.Same(list{}, nil) || !element.Same(nil, nil) {
		t.Error("nil and empty slices are not the same")
	}
	if element.Same(nil, list{{}}) || element.Same(list{{}}, list{}) {
		t.Error("no elements are the same as the zero element")
	}
}

func TestAnyListsAreAccepted(t *testing.T) {
	lists := slices.Concat(anyLists(5, 300), goodLists(6, 100))
	for _, a := range lists {
		if got := element.Twin(a); !equal(got, a) {
			t.Errorf("Twin of %s: %s", show(a), show(got))
		}
		for _, b := range lists {
			if got := element.Same(a, b); got != equal(a, b) {
				t.Errorf("Same of %s and %s: %v", show(a), show(b), got)
			}
		}
		for _, id := range []uint8{0, 1, 200, 254, 255} {
			for ext := range uint8(3) {
				has := func(x elem) bool { return x.Id == id && x.Ext == ext }
				x, is := element.Find(a, id, ext)
				var want elem
				at := slices.IndexFunc(a, has)
				if at >= 0 {
					want = a[at]
				}
				if is != (at >= 0) || !equal(list{x}, list{want}) {
					t.Errorf("Find of %d %d in %s: %s %v", id, ext, show(a), show(x), is)
				}
				kept := slices.DeleteFunc(slices.Clone(a), has)
				if got := element.Remove(a, id, ext); !equal(got, kept) {
					t.Errorf("Remove of %d %d from %s: %s", id, ext, show(a), show(got))
				}
			}
		}
	}
}

// P4.4

func TestInverse(t *testing.T) {
	for _, l := range goodLists(7, 3000) {
		b, e := element.Encode(l)
		if e != api.OK {
			t.Fatalf("Encode of %s: error %d", show(l), e)
		}
		got, e := element.Decode(b)
		if e != api.OK || !equal(got, l) || !element.Same(got, l) {
			t.Errorf("Decode after Encode of %s: %s %d", show(l), show(got), e)
		}
		if n, e := element.Size(got); e != api.OK || n != len(b) {
			t.Errorf("Size of %s: %d %d, want %d", show(l), n, e, len(b))
		}
	}
}

func TestUnknownIdsKeepTheirData(t *testing.T) {
	for id := range 256 {
		if id >= 200 && id <= 219 || id == 254 {
			continue
		}
		for _, n := range interestingSizes {
			l := list{{Id: uint8(id), Data: counted(n)}}
			b, _ := element.Encode(l)
			wantDecode(t, fmt.Sprintf("%d bytes in %d", n, id), b, l, api.OK)
		}
		l := list{nested(4, elem{Id: uint8(id), Data: counted(300)})}
		b, _ := element.Encode(l)
		wantDecode(t, fmt.Sprintf("a nested %d", id), b, l, api.OK)
	}
}

func TestConcatenation(t *testing.T) {
	lists := goodLists(8, 150)
	for _, x := range lists {
		for _, y := range lists {
			if count(x)+count(y) > 64 {
				continue
			}
			bx, _ := element.Encode(x)
			by, _ := element.Encode(y)
			both := slices.Concat(bx, by)
			if b, e := element.Encode(slices.Concat(x, y)); e != api.OK || !bytes.Equal(b, both) {
				t.Fatalf("%s and %s: error %d", show(x), show(y), e)
			}
			if l, e := element.Decode(both); e != api.OK || !equal(l, slices.Concat(x, y)) {
				t.Fatalf("%s and %s are decoded as %s %d", show(x), show(y), show(l), e)
			}
		}
	}
}

func FuzzDecode(f *testing.F) {
	for _, b := range [][]byte{nil, {7, 2, 1, 2}, {255, 3, 9, 1, 2}, {200, 4, 7, 2, 1, 2}, {254, 0}, {200, 6, 201, 4, 202, 2, 203, 0}, raw(7, make([]byte, 255)), raw(219, raw(7, make([]byte, 600)))} {
		f.Add(b)
	}
	f.Fuzz(func(t *testing.T, b []byte) {
		want, e := decoded(b)
		wantDecode(t, "bytes", b, want, e)
		if e != api.OK {
			return
		}
		wantCheck(t, "what was decoded", want, api.OK)
		if again, e := element.Encode(want); e != api.OK || !bytes.Equal(again, b) {
			t.Error("encoded again:", again, e)
		}
	})
}

// R2

// hidden is what stands between the length and the capacity of each slice of a guarded list.
var hidden = elem{Id: 77, Ext: 88, Data: []byte{99}}

// guarded returns a copy of a list whose slices all have further memory behind their lengths.
func guarded(l list) list {
	g := make(list, 0, len(l)+2)
	for _, x := range l {
		x.Data = append(append(make([]byte, 0, len(x.Data)+9), x.Data...), 1, 2, 3, 4, 5, 6, 7, 8, 9)[:len(x.Data)]
		x.Subs = guarded(x.Subs)
		g = append(g, x)
	}
	return append(g, hidden, hidden)[:len(l)]
}

// whole returns all bytes of a list, those behind the lengths of its slices included.
func whole(l list) string {
	var b []byte
	for _, x := range l[:cap(l)] {
		data := x.Data[:cap(x.Data)]
		b = append(b, x.Id, x.Ext, byte(len(x.Data)), byte(len(data)), byte(len(x.Subs)))
		b = append(append(b, data...), whole(x.Subs)...)
	}
	return string(b)
}

// spoil changes all memory of a list, that behind the lengths of its slices included.
func spoil(l list) {
	l = l[:cap(l)]
	for i := range l {
		spoilBytes(l[i].Data)
		spoil(l[i].Subs)
		l[i] = elem{Id: l[i].Id ^ 255, Ext: 111, Data: []byte{1}}
	}
}

func spoilBytes(b []byte) {
	b = b[:cap(b)]
	for i := range b {
		b[i] ^= 255
	}
}

// calls are the functions that return lists, with any arguments.
var calls = map[string]func(l list) list{
	"Twin":   element.Twin,
	"Remove": func(l list) list { return element.Remove(l, 5, 0) },
	"Find": func(l list) list {
		if len(l) == 0 {
			return nil
		}
		x, _ := element.Find(l, l[0].Id, l[0].Ext)
		return list{x}
	},
	"Decode": func(l list) list {
		m, _ := element.Decode(encoding(l))
		return m
	},
}

func TestArgumentsAreOnlyRead(t *testing.T) {
	for _, l := range slices.Concat(goodLists(9, 300), anyLists(10, 300)) {
		g := guarded(l)
		before := whole(g)
		element.Check(g)
		element.Encode(g)
		element.Size(g)
		element.Same(g, g)
		for what, call := range calls {
			result := call(g)
			if whole(g) != before {
				t.Fatalf("%s changed %s", what, show(l))
			}
			spoil(result)
			if whole(g) != before {
				t.Fatalf("the result of %s shares memory with %s", what, show(l))
			}
		}
		b, _ := element.Encode(g)
		spoilBytes(b)
		if whole(g) != before {
			t.Fatalf("the encoding shares memory with %s", show(l))
		}
		again, e := element.Encode(g)
		if e == api.OK && !bytes.Equal(again, encoding(l)) {
			t.Fatalf("two encodings of %s share memory", show(l))
		}
	}
}

func TestBytesAreOnlyRead(t *testing.T) {
	for _, l := range goodLists(11, 300) {
		all := append(encoding(l), 254, 0, 1, 1, 1)
		before := bytes.Clone(all)
		b := all[: len(all)-5 : len(all)]
		first, e := element.Decode(b)
		second, _ := element.Decode(b)
		if e != api.OK || !bytes.Equal(all, before) {
			t.Fatalf("Decode changed its argument or saw behind it: %d", e)
		}
		spoil(first)
		if !bytes.Equal(all, before) || !equal(second, l) {
			t.Fatalf("the result for %s shares memory", show(l))
		}
	}
}

// parted tells whether no two slices of a list share memory: each is filled with another value to its capacity.
func parted(l list) bool {
	type piece struct {
		b []byte
		v byte
	}
	var pieces []piece
	var fill func(l list)
	fill = func(l list) {
		for i := range l {
			b := l[i].Data[:cap(l[i].Data)]
			v := byte(len(pieces) + 1)
			for j := range b {
				b[j] = v
			}
			pieces = append(pieces, piece{b, v})
			fill(l[i].Subs)
		}
	}
	fill(l)
	for _, p := range pieces {
		if bytes.Count(p.b, []byte{p.v}) != len(p.b) {
			return false
		}
	}
	return true
}

func TestSlicesOfAResultShareNoMemory(t *testing.T) {
	shared := []byte{1, 2, 3, 4}
	sub := list{{Id: 3, Data: shared}}
	lists := append(goodLists(12, 300), list{{Id: 1, Data: shared}, {Id: 2, Data: shared[:2]}, {Id: 200, Subs: sub}, {Id: 201, Subs: sub}})
	for _, l := range lists {
		for what, call := range calls {
			if !parted(call(l)) {
				t.Fatalf("slices of the result of %s for %s share memory", what, show(l))
			}
		}
	}
	twin := element.Twin(list{{Id: 200, Subs: sub}, {Id: 201, Subs: sub}})
	twin[0].Subs[0].Id = 4
	if twin[1].Subs[0].Id != 3 {
		t.Error("two lists of a twin share memory")
	}
}

func TestNothingIsKept(t *testing.T) {
	b := encoding(row(64))
	for range 3 {
		wantDecode(t, "64 elements again", b, row(64), api.OK)
		wantDecode(t, "65 elements again", append(slices.Clone(b), 1, 0), nil, api.ErrMany)
		wantCheck(t, "64 elements again", row(64), api.OK)
	}
}

// R7

func TestDeepLists(t *testing.T) {
	deep := func(last uint8) list {
		x := elem{Id: last}
		for range 1<<16 - 1 {
			x = elem{Id: 200, Subs: list{x}}
		}
		return list{x}
	}
	a, b := deep(1), deep(2)
	wantCheck(t, "2^16 levels", a, api.ErrMany)
	if element.Same(a, b) || !element.Same(a, element.Twin(a)) || !element.Same(a, element.Remove(a, 1, 0)) {
		t.Error("lists of 2^16 levels are not compared to their end")
	}
	if x, is := element.Find(b, 200, 0); !is || !element.Same(b, list{x}) {
		t.Error("an element of 2^16 levels is not found")
	}
}

// TestListsWithoutEnd has lists that contain themselves, which have no end.
func TestListsWithoutEnd(t *testing.T) {
	for _, id := range []uint8{200, 1, 254} {
		for n := 1; n < 4; n++ {
			l := row(n)
			l[n-1] = elem{Id: id, Subs: l}
			wantCheck(t, "a list that contains itself", l, api.ErrMany)
		}
	}
}

func TestDecodeOfLargeStrings(t *testing.T) {
	for c := range 256 {
		b := bytes.Repeat([]byte{byte(c)}, 1<<20)
		want, e := decoded(b)
		wantDecode(t, fmt.Sprintf("many bytes %d", c), b, want, e)
	}
	wantDecode(t, "one large element", raw(1, make([]byte, 1<<18)), nil, api.ErrLong)
	wantDecode(t, "one large container", raw(200, make([]byte, 1<<16)), nil, api.ErrLong)
}
