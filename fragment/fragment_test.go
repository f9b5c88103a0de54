package fragment_test

import (
	"bytes"
	"fmt"
	"math"
	"math/rand"
	"slices"
	"testing"

	"hotspot/api"
	"hotspot/fragment"
	"hotspot/header"
)

type (
	head      = api.Header
	frame     = api.Frame
	partial   = api.Partial
	collector = api.Collector
)

const (
	life = 500_000
	last = 1 << 40 // the greatest time
)

// The definitions, as the chapter says them. Which headers and frames are valid is asked of layer 5.

func validHead(h head) bool { return header.Check(h) == api.OK }

func validFrame(f frame) bool {
	_, e := header.Encode(f)
	return e == api.OK || e == api.ErrLong
}

func traffic(h head) bool {
	return h.Kind == api.KindData && (h.Sub == api.SubQos || h.Sub == api.SubQosNull)
}

func sameStream(g, h head) bool {
	return g.A1 == h.A1 && g.A2 == h.A2 && g.Kind == h.Kind && traffic(g) == traffic(h) && g.Tid == h.Tid
}

func cutError(f frame, size int) api.Errno {
	h := f.Head
	switch {
	case !validFrame(f), h.Kind == api.KindControl, h.A1[0]%2 == 1, h.More, h.Amsdu, h.Frag != 0:
		return api.ErrBad
	case len(f.Body) > 2304:
		return api.ErrLong
	case size < 1:
		return api.ErrArg
	case size < 2304 && len(f.Body) > 16*size:
		return api.ErrMany
	}
	return api.OK
}

// fragments returns the fragments of a frame that can be cut.
func fragments(f frame, size int) []frame {
	var l []frame
	rest := f.Body
	for {
		g := frame{Head: f.Head, Body: rest}
		g.Head.Frag = len(l)
		if len(rest) <= size {
			return append(l, g)
		}
		g.Body, rest = rest[:size], rest[size:]
		g.Head.More = true
		l = append(l, g)
	}
}

func validTime(t int) bool { return 0 <= t && t <= last }

func validPart(p partial) bool {
	h := p.Head
	return validHead(h) && h.Kind != api.KindControl && h.Frag == 0 && h.More &&
		1 <= p.Next && p.Next <= 16 && len(p.Body) <= 2304 && validTime(p.Since)
}

func validCollector(c collector) bool {
	for i, p := range c.Parts {
		if !validPart(p) {
			return false
		}
		for _, q := range c.Parts[:i] {
			if sameStream(p.Head, q.Head) {
				return false
			}
		}
	}
	return len(c.Parts) <= 8
}

func expired(c collector, now int) collector {
	var left []partial
	for _, p := range c.Parts {
		if now-p.Since <= life {
			left = append(left, p)
		}
	}
	return collector{Parts: left}
}

// collected returns what Collect has to return.
func collected(c collector, f frame, now int) (frame, bool, collector, api.Errno) {
	none := func(e api.Errno) (frame, bool, collector, api.Errno) { return frame{}, false, collector{}, e }
	switch {
	case !validCollector(c):
		return none(api.ErrBad)
	case !validTime(now):
		return none(api.ErrArg)
	case !validFrame(f), len(f.Body) > 2304:
		return none(api.ErrBad)
	case f.Head.Kind == api.KindControl:
		return none(api.ErrArg)
	}
	var before, after []partial // those of other streams
	var own *partial
	for _, p := range expired(c, now).Parts {
		switch {
		case sameStream(p.Head, f.Head):
			own = &partial{Head: p.Head, Next: p.Next + 1, Body: slices.Concat(p.Body, f.Body), Since: p.Since}
		case own == nil:
			before = append(before, p)
		default:
			after = append(after, p)
		}
	}
	others := collector{Parts: slices.Concat(before, after)}
	if f.Head.Frag > 0 {
		switch {
		case own == nil || own.Head.Seq != f.Head.Seq:
			return none(api.ErrNone)
		case f.Head.Frag < own.Next-1:
			return none(api.ErrStale)
		case f.Head.Frag > own.Next-1:
			return none(api.ErrState)
		case len(own.Body) > 2304:
			return none(api.ErrLong)
		case f.Head.More:
			return frame{}, false, collector{Parts: slices.Concat(before, []partial{*own}, after)}, api.OK
		}
		return plain(frame{Head: own.Head, Body: own.Body}), true, others, api.OK
	}
	if !f.Head.More {
		return plain(f), true, others, api.OK
	}
	if len(others.Parts) == 8 {
		oldest := 0
		for i, p := range others.Parts {
			if p.Since < others.Parts[oldest].Since {
				oldest = i
			}
		}
		others.Parts = slices.Delete(others.Parts, oldest, oldest+1)
	}
	others.Parts = append(others.Parts, partial{Head: f.Head, Next: 1, Body: f.Body, Since: now})
	return frame{}, false, others, api.OK
}

// plain returns a frame as it is when it is whole.
func plain(f frame) frame {
	f.Head.More, f.Head.Retry = false, false
	return f
}

// Comparing, and what the tests expect.

func equal(f, g frame) bool { return f.Head == g.Head && string(f.Body) == string(g.Body) }

func equalParts(p, q partial) bool {
	return p.Head == q.Head && p.Next == q.Next && string(p.Body) == string(q.Body) && p.Since == q.Since
}

func equalCollectors(c, d collector) bool { return slices.EqualFunc(c.Parts, d.Parts, equalParts) }

func show(f frame) string { return fmt.Sprintf("%+v with %d bytes", f.Head, len(f.Body)) }

func showAll(c collector) string {
	s := fmt.Sprint(len(c.Parts), " parts:")
	for _, p := range c.Parts {
		s += fmt.Sprintf("\n\t%+v next %d with %d bytes since %d", p.Head, p.Next, len(p.Body), p.Since)
	}
	return s
}

func wantCut(t *testing.T, what string, f frame, size int) {
	t.Helper()
	want := cutError(f, size)
	l, e := fragment.Cut(f, size)
	if e != want {
		t.Fatalf("%s: %s at size %d: error %d, want %d", what, show(f), size, e, want)
	}
	if e != api.OK {
		if len(l) > 0 {
			t.Fatalf("%s: %d fragments with error %d", what, len(l), e)
		}
		return
	}
	if pieces := fragments(f, size); !slices.EqualFunc(l, pieces, equal) {
		t.Fatalf("%s: %s at size %d: %d fragments %v, want %d %v", what, show(f), size, len(l), l, len(pieces), pieces)
	}
}

func wantCutError(t *testing.T, what string, f frame, size int, want api.Errno) {
	t.Helper()
	if l, e := fragment.Cut(f, size); e != want || want != api.OK && len(l) > 0 {
		t.Errorf("%s: %s at size %d: %d fragments, error %d, want error %d", what, show(f), size, len(l), e, want)
	}
	wantCut(t, what, f, size)
}

// wantCollect returns what Collect returns, after it was compared with the definition.
func wantCollect(t *testing.T, what string, c collector, f frame, now int) (frame, bool, collector, api.Errno) {
	t.Helper()
	whole, done, next, e := fragment.Collect(c, f, now)
	wantWhole, wantDone, wantNext, wantE := collected(c, f, now)
	if !equal(whole, wantWhole) || done != wantDone || !equalCollectors(next, wantNext) || e != wantE {
		t.Fatalf("%s: %s at %d into %s\nis %s, %v, %s, error %d\nwant %s, %v, %s, error %d", what, show(f), now, showAll(c),
			show(whole), done, showAll(next), e, show(wantWhole), wantDone, showAll(wantNext), wantE)
	}
	return whole, done, next, e
}

func wantCollectError(t *testing.T, what string, c collector, f frame, now int, want api.Errno) {
	t.Helper()
	if _, _, _, e := wantCollect(t, what, c, f, now); e != want {
		t.Errorf("%s: error %d, want %d", what, e, want)
	}
}

func wantExpire(t *testing.T, what string, c collector, now int, want collector, wantDropped int, wantE api.Errno) {
	t.Helper()
	next, dropped, e := fragment.Expire(c, now)
	if !equalCollectors(next, want) || dropped != wantDropped || e != wantE {
		t.Fatalf("%s: %s at %d\nis %s, %d, error %d\nwant %s, %d, error %d", what, showAll(c), now, showAll(next), dropped, e, showAll(want), wantDropped, wantE)
	}
}

// wantCheck expects Check, Collect and Expire to find the same.
func wantCheck(t *testing.T, what string, c collector, want api.Errno) {
	t.Helper()
	if e := fragment.Check(c); e != want || validCollector(c) != (want == api.OK) {
		t.Errorf("%s: error %d, want %d: %s", what, e, want, showAll(c))
	}
	if want == api.OK {
		return
	}
	wantExpire(t, what, c, 0, collector{}, 0, want)
	wantCollectError(t, what, c, frame{Head: data(1)}, 0, want)
}

// What the tests cut and collect.

var (
	point   = api.Addr{2, 1}
	station = api.Addr{2, 2}
	server  = api.Addr{2, 3}
	group   = api.Addr{1}
)

func data(seq int) head {
	return head{Kind: api.KindData, Sub: api.SubQos, ToDs: true, A1: point, A2: station, A3: server, Seq: seq, Tid: 3}
}

func counted(n int) []byte {
	b := make([]byte, n)
	for i := range b {
		b[i] = byte(i*7 + i/256)
	}
	return b
}

// heads returns a header of each Kind and Sub, all fields of which are used where they may be.
func heads() []head {
	var l []head
	for _, sub := range []uint8{0, 1, 2, 3, 4, 5, 8, 10, 11, 12, 13} {
		l = append(l, head{Sub: sub, Retry: true, Sleep: true, MoreData: true, Protected: true, Duration: 32767, A1: point, A2: station, A3: server, Seq: 4095})
	}
	for sub := uint8(8); sub <= 13; sub++ {
		l = append(l, head{Kind: api.KindControl, Sub: sub, Duration: 44, A1: point})
	}
	for _, sub := range []uint8{api.SubData, api.SubNull, api.SubQos, api.SubQosNull} {
		h := head{Kind: api.KindData, Sub: sub, ToDs: true, FromDs: true, Retry: true, Sleep: true, MoreData: true, Duration: 9, A1: point, A2: station, A3: server, A4: group, Seq: 77}
		h.Protected = sub%8 == 0
		if traffic(h) {
			h.Tid, h.Ack, h.Eosp = 7, 2, true
		}
		l = append(l, h)
	}
	return l
}

func empty(h head) bool {
	return h.Kind == api.KindData && h.Sub%8 == 4 || h.Kind == api.KindControl && h.Sub > api.SubBack
}

// streams returns first fragments of n different streams.
func streams(n int) []head {
	var l []head
	for i := range n {
		h := data(5)
		h.More, h.A2[5] = true, byte(i)
		l = append(l, h)
	}
	return l
}

// full returns a collector with n partial frames, begun one microsecond after the other.
func full(n int) collector {
	var c collector
	for i, h := range streams(n) {
		c.Parts = append(c.Parts, partial{Head: h, Next: 1, Body: []byte{byte(i)}, Since: 1000 + i})
	}
	return c
}

// piece returns a fragment of the partial frame i of a collector.
func piece(c collector, i, frag int, more bool, body ...byte) frame {
	h := c.Parts[i].Head
	h.Frag, h.More = frag, more
	return frame{Head: h, Body: body}
}

// P7.1

func TestExample(t *testing.T) {
	f := frame{Head: data(5), Body: []byte{1, 2, 3, 4, 5}}
	l, e := fragment.Cut(f, 2)
	if e != api.OK || len(l) != 3 {
		t.Fatal(l, e)
	}
	var c, lossy collector
	for i, body := range [][]byte{{1, 2}, {3, 4}, {5}} {
		h := f.Head
		h.Frag, h.More = i, i < 2
		if l[i].Head != h || !bytes.Equal(l[i].Body, body) {
			t.Error(i, l[i])
		}
		var whole frame
		var done bool
		whole, done, c, e = wantCollect(t, "in order", c, l[i], 100+i)
		if e != api.OK || done != (i == 2) || done && !equal(whole, f) {
			t.Error(i, whole, done, e)
		}
	}
	_, _, lossy, _ = fragment.Collect(lossy, l[0], 100)
	wantCollectError(t, "the second is lost", lossy, l[2], 102, api.ErrState)
}

func TestCutAllLengths(t *testing.T) {
	b := counted(2304)
	for n := range 2305 {
		for _, size := range []int{1, 2, 100, 143, 144, 145, n / 16, (n + 15) / 16, n/16 + 1, n - 1, n, n + 1, 2304, 2305, math.MaxInt / 16, math.MaxInt/16 + 1, math.MaxInt} {
			wantCut(t, "lengths", frame{Head: data(5), Body: b[:n]}, size)
		}
	}
}

func TestCutAllSizes(t *testing.T) {
	for _, n := range []int{0, 1, 15, 16, 17, 300, 2303, 2304} {
		for size := -2; size < 2400; size++ {
			wantCut(t, "sizes", frame{Head: data(5), Body: counted(n)}, size)
		}
	}
}

func TestCutMany(t *testing.T) {
	for _, size := range []int{1, 2, 3, 100, 143} {
		wantCutError(t, "16 fragments", frame{Head: data(5), Body: counted(16 * size)}, size, api.OK)
		wantCutError(t, "17 fragments", frame{Head: data(5), Body: counted(16*size + 1)}, size, api.ErrMany)
	}
	wantCutError(t, "16 of the longest", frame{Head: data(5), Body: counted(2304)}, 144, api.OK)
}

func TestCutEmptyBody(t *testing.T) {
	for _, h := range heads() {
		if h.Kind == api.KindControl {
			continue
		}
		for _, size := range []int{1, 2304, math.MaxInt} {
			l, e := fragment.Cut(frame{Head: h}, size)
			if e != api.OK || len(l) != 1 || l[0].Head != h || len(l[0].Body) != 0 {
				t.Errorf("%+v at %d: %v, error %d", h, size, l, e)
			}
		}
	}
}

func TestCutAllKinds(t *testing.T) {
	for _, h := range heads() {
		f := frame{Head: h, Body: counted(50)}
		if empty(h) {
			wantCutError(t, "a body that may not be", f, 20, api.ErrBad)
			f.Body = nil
		}
		want := api.OK
		if h.Kind == api.KindControl {
			want = api.ErrBad
		}
		wantCutError(t, "kinds", f, 20, want)
	}
}

func TestCutBad(t *testing.T) {
	cases := []struct {
		what   string
		change func(h *head)
	}{
		{"More", func(h *head) { h.More = true }},
		{"Frag", func(h *head) { h.Frag = 1 }},
		{"the last Frag", func(h *head) { h.Frag = 15 }},
		{"Frag below zero", func(h *head) { h.Frag = -1 }},
		{"a group", func(h *head) { h.A1 = group }},
		{"all", func(h *head) { h.A1 = api.Addr{255, 255, 255, 255, 255, 255} }},
		{"from a group", func(h *head) { h.A2 = group }},
		{"Seq", func(h *head) { h.Seq = 4096 }},
		{"Seq below zero", func(h *head) { h.Seq = -1 }},
		{"Duration", func(h *head) { h.Duration = 32768 }},
		{"Kind", func(h *head) { h.Kind = 3 }},
		{"Sub", func(h *head) { h.Sub = 7 }},
	}
	for _, h := range heads() {
		if h.Kind == api.KindControl {
			continue
		}
		for _, c := range cases {
			bad := h
			c.change(&bad)
			wantCutError(t, c.what, frame{Head: bad}, 20, api.ErrBad)
		}
	}
	h := data(5)
	h.Amsdu = true
	wantCutError(t, "Amsdu", frame{Head: h, Body: counted(30)}, 20, api.ErrBad)
	h = data(5)
	h.Tid = 8
	wantCutError(t, "Tid", frame{Head: h}, 20, api.ErrBad)
	h = data(5)
	h.A3, h.Ack, h.Protected, h.Retry = group, 2, true, true
	wantCutError(t, "a group behind the point", frame{Head: h, Body: counted(30)}, 20, api.OK)
}

func TestOrderOfCut(t *testing.T) {
	long := counted(2305)
	bad := data(5)
	bad.More = true
	wantCutError(t, "bad before long", frame{Head: bad, Body: long}, 20, api.ErrBad)
	wantCutError(t, "bad before size", frame{Head: bad}, 0, api.ErrBad)
	wantCutError(t, "bad before many", frame{Head: bad, Body: long[:100]}, 1, api.ErrBad)
	wantCutError(t, "long before size", frame{Head: data(5), Body: long}, 0, api.ErrLong)
	wantCutError(t, "long before many", frame{Head: data(5), Body: long}, 1, api.ErrLong)
	wantCutError(t, "long alone", frame{Head: data(5), Body: long}, 2305, api.ErrLong)
	for _, size := range []int{0, -1, math.MinInt, -1 << 32} {
		wantCutError(t, "size", frame{Head: data(5), Body: long[:100]}, size, api.ErrArg)
		wantCutError(t, "size of no body", frame{Head: data(5)}, size, api.ErrArg)
	}
}

// P7.2: Check

func TestCheckNumberOfParts(t *testing.T) {
	for n := range 12 {
		want := api.OK
		if n > 8 {
			want = api.ErrBad
		}
		wantCheck(t, fmt.Sprint(n, " parts"), full(n), want)
	}
}

func TestCheckFieldsOfParts(t *testing.T) {
	cases := []struct {
		what   string
		change func(p *partial)
		want   api.Errno
	}{
		{"Next 0", func(p *partial) { p.Next = 0 }, api.ErrBad},
		{"Next below zero", func(p *partial) { p.Next = -1 }, api.ErrBad},
		{"Next 15", func(p *partial) { p.Next = 15 }, api.OK},
		{"Next 16", func(p *partial) { p.Next = 16 }, api.OK},
		{"Next 17", func(p *partial) { p.Next = 17 }, api.ErrBad},
		{"no body", func(p *partial) { p.Body = nil }, api.OK},
		{"the longest body", func(p *partial) { p.Body = counted(2304) }, api.OK},
		{"a longer body", func(p *partial) { p.Body = counted(2305) }, api.ErrBad},
		{"Since 0", func(p *partial) { p.Since = 0 }, api.OK},
		{"Since below zero", func(p *partial) { p.Since = -1 }, api.ErrBad},
		{"the greatest Since", func(p *partial) { p.Since = last }, api.OK},
		{"a greater Since", func(p *partial) { p.Since = last + 1 }, api.ErrBad},
		{"no More", func(p *partial) { p.Head.More = false }, api.ErrBad},
		{"Frag", func(p *partial) { p.Head.Frag = 1 }, api.ErrBad},
		{"Retry", func(p *partial) { p.Head.Retry = true }, api.OK},
		{"Amsdu", func(p *partial) { p.Head.Amsdu = true }, api.OK},
		{"a group", func(p *partial) { p.Head.A1 = group }, api.ErrBad},
		{"from a group", func(p *partial) { p.Head.A2 = group }, api.ErrBad},
		{"Seq", func(p *partial) { p.Head.Seq = 4096 }, api.ErrBad},
		{"Kind", func(p *partial) { p.Head.Kind = 3 }, api.ErrBad},
		{"a zero part", func(p *partial) { *p = partial{} }, api.ErrBad},
		{"a null frame", func(p *partial) { p.Head.Sub = api.SubQosNull }, api.ErrBad},
	}
	for _, x := range cases {
		for n := 1; n <= 8; n++ {
			for i := range n {
				c := full(n)
				x.change(&c.Parts[i])
				wantCheck(t, fmt.Sprintf("%s in part %d of %d", x.what, i, n), c, x.want)
			}
		}
	}
	for _, h := range heads() {
		p := partial{Head: h, Next: 1}
		wantCheck(t, "no fragment", collector{Parts: []partial{p}}, api.ErrBad)
		p.Head.More = true
		want := api.OK
		if h.Kind == api.KindControl || empty(h) {
			want = api.ErrBad
		}
		wantCheck(t, "kinds", collector{Parts: []partial{p}}, want)
	}
}

// A change of a header, and whether it leads to another stream.
var changes = []struct {
	what   string
	change func(h *head)
	other  bool
}{
	{"A1", func(h *head) { h.A1[5] ^= 1 }, true},
	{"A2", func(h *head) { h.A2[0] ^= 2 }, true},
	{"Kind", func(h *head) { *h = head{A1: h.A1, A2: h.A2, More: h.More, Seq: h.Seq, Frag: h.Frag} }, true},
	{"Tid", func(h *head) { h.Tid ^= 1 }, true},
	{"the greatest Tid", func(h *head) { h.Tid = 7 }, true},
	{"no traffic identifier", func(h *head) { h.Sub, h.Tid, h.Ack, h.Eosp = api.SubData, 0, 0, false }, true},
	{"A3", func(h *head) { h.A3[5] ^= 1 }, false},
	{"A4", func(h *head) { h.FromDs, h.A4 = true, group }, false},
	{"ToDs", func(h *head) { h.ToDs = false }, false},
	{"Retry", func(h *head) { h.Retry = true }, false},
	{"Sleep", func(h *head) { h.Sleep = true }, false},
	{"MoreData", func(h *head) { h.MoreData = true }, false},
	{"Protected", func(h *head) { h.Protected = true }, false},
	{"Duration", func(h *head) { h.Duration = 100 }, false},
	{"Ack", func(h *head) { h.Ack = 2 }, false},
	{"Eosp", func(h *head) { h.Eosp = true }, false},
	{"Amsdu", func(h *head) { h.Amsdu = true }, false},
}

func TestCheckStreams(t *testing.T) {
	for _, tid := range []int{0, 3} {
		for _, x := range append(changes, changes[0]) {
			g := data(5)
			g.More, g.Tid = true, tid
			h := g
			x.change(&h)
			want := api.ErrBad
			if x.other {
				want = api.OK
			}
			for _, c := range []collector{
				{Parts: []partial{{Head: g, Next: 1}, {Head: h, Next: 2}}},
				{Parts: append(full(6).Parts, partial{Head: h, Next: 2}, partial{Head: g, Next: 3})},
			} {
				c.Parts[0].Head.A3[3] = 8 // is no part of a stream
				if len(c.Parts) > 2 {
					c.Parts = c.Parts[1:] // the first one is the stream of g
				}
				wantCheck(t, x.what, c, want)
			}
			h.Seq = 6
			wantCheck(t, x.what+" and Seq", collector{Parts: []partial{{Head: g, Next: 1}, {Head: h, Next: 1}}}, want)
		}
	}
	// Management frames of all subtypes are one stream; the first and the last of eight count, too.
	g := head{Sub: api.SubAction, A1: point, A2: station, More: true}
	h := head{Sub: api.SubBeacon, A1: point, A2: station, More: true}
	wantCheck(t, "management frames", collector{Parts: []partial{{Head: g, Next: 1}, {Head: h, Next: 1}}}, api.ErrBad)
	c := full(8)
	c.Parts[7].Head = c.Parts[0].Head
	wantCheck(t, "first and last", c, api.ErrBad)
	// Data frames of which only one has a traffic identifier are two, also if that is 0.
	g, h = head{Kind: api.KindData, More: true}, head{Kind: api.KindData, Sub: api.SubQos, More: true}
	wantCheck(t, "traffic identifier 0", collector{Parts: []partial{{Head: g, Next: 1}, {Head: h, Next: 1}}}, api.OK)
}

// P7.2: Collect

func TestCollectWholeFrames(t *testing.T) {
	for _, c := range []collector{{}, full(1), full(7), full(8)} {
		for _, h := range heads() {
			if h.Kind == api.KindControl {
				continue
			}
			for _, retry := range []bool{false, true} {
				for _, n := range []int{0, 1, 2304} {
					f := frame{Head: h, Body: counted(n)}
					f.Head.Retry = retry
					if empty(h) {
						f.Body = nil
					}
					whole, done, next, e := wantCollect(t, "whole", c, f, 2000)
					f.Head.Retry = false
					if e != api.OK || !done || !equal(whole, f) || !equalCollectors(next, c) {
						t.Fatal(show(f), show(whole), done, showAll(next), e)
					}
				}
			}
			h.A1 = group
			if _, done, _, e := wantCollect(t, "for a group", c, frame{Head: h}, 2000); !done || e != api.OK {
				t.Fatal(show(frame{Head: h}), done, e)
			}
		}
	}
}

func TestCollectAFrameOfOneStreamReplaces(t *testing.T) {
	for n := 1; n <= 8; n++ {
		for i := range n {
			for _, seq := range []int{5, 6} {
				c := full(n)
				f := piece(c, i, 0, false, 1, 2)
				f.Head.Seq = seq
				_, done, next, e := wantCollect(t, "a whole frame", c, f, 2000)
				if !done || e != api.OK || !equalCollectors(next, collector{Parts: slices.Delete(full(n).Parts, i, i+1)}) {
					t.Fatal(n, i, done, showAll(next), e)
				}
				f.Head.More = true
				_, done, next, e = wantCollect(t, "a first fragment", c, f, 2000)
				want := append(slices.Delete(full(n).Parts, i, i+1), partial{Head: f.Head, Next: 1, Body: f.Body, Since: 2000})
				if done || e != api.OK || !equalCollectors(next, collector{Parts: want}) {
					t.Fatal(n, i, done, showAll(next), e)
				}
			}
		}
	}
	// A frame without body counts, too.
	c := full(3)
	f := piece(c, 1, 0, false)
	f.Head.Sub = api.SubQosNull
	if _, done, next, e := wantCollect(t, "a null frame", c, f, 2000); !done || e != api.OK || len(next.Parts) != 2 {
		t.Error(done, showAll(next), e)
	}
}

func TestCollectStreams(t *testing.T) {
	for _, x := range changes {
		g := data(5)
		g.More = true
		c := collector{Parts: []partial{{Head: g, Next: 1, Body: []byte{1, 2}, Since: 1000}}}
		h := g
		x.change(&h)
		parts := 1
		if x.other {
			parts = 2
		}
		if _, _, next, e := wantCollect(t, x.what, c, frame{Head: h}, 1000); e != api.OK || len(next.Parts) != parts {
			t.Error(x.what, e, showAll(next))
		}
		h.Frag, h.More = 1, false
		whole, done, _, e := wantCollect(t, x.what, c, frame{Head: h, Body: []byte{3}}, 1000)
		g.More = false
		want := frame{Head: g, Body: []byte{1, 2, 3}} // with the header of the first one
		if x.other && e != api.ErrNone || !x.other && (!done || !equal(whole, want)) {
			t.Error(x.what, e, done, show(whole))
		}
	}
}

func TestCollectNextFragment(t *testing.T) {
	for next := 1; next <= 16; next++ {
		for frag := 1; frag <= 15; frag++ {
			for _, more := range []bool{false, true} {
				c := full(3)
				c.Parts[1].Next = next
				want := api.OK
				switch {
				case frag < next:
					want = api.ErrStale
				case frag > next:
					want = api.ErrState
				}
				wantCollectError(t, fmt.Sprint(next, frag, more), c, piece(c, 1, frag, more, 1, 2, 3), 2000, want)
				f := piece(c, 1, frag, more, 1, 2, 3)
				f.Head.Seq++
				wantCollectError(t, "another Seq", c, f, 2000, api.ErrNone)
			}
		}
	}
	c := full(3)
	_, done, next, e := wantCollect(t, "a fragment in the middle", c, piece(c, 1, 1, true, 8, 9), 2000)
	want := full(3)
	want.Parts[1] = partial{Head: want.Parts[1].Head, Next: 2, Body: []byte{1, 8, 9}, Since: 1001}
	if done || e != api.OK || !equalCollectors(next, want) {
		t.Error(done, e, showAll(next))
	}
	_, done, next, e = wantCollect(t, "the last fragment", next, piece(c, 1, 2, false), 2000)
	if !done || e != api.OK || !equalCollectors(next, collector{Parts: slices.Delete(full(3).Parts, 1, 2)}) {
		t.Error(done, e, showAll(next))
	}
	wantCollectError(t, "nothing is left", next, piece(c, 1, 2, false), 2000, api.ErrNone)
	wantCollectError(t, "empty", collector{}, piece(c, 1, 1, false), 2000, api.ErrNone)
}

func TestCollectAllFragmentsWithMore(t *testing.T) {
	var c collector
	for i := range 16 {
		f := frame{Head: data(5), Body: counted(144)}
		f.Head.Frag, f.Head.More = i, true
		_, done, next, e := wantCollect(t, "More", c, f, 1000)
		if done || e != api.OK {
			t.Fatal(i, done, e)
		}
		c = next
	}
	if c.Parts[0].Next != 16 || len(c.Parts[0].Body) != 2304 || fragment.Check(c) != api.OK {
		t.Error(showAll(c))
	}
	wantCollectError(t, "no further one", c, piece(c, 0, 15, false), 1000, api.ErrStale)
}

func TestWholeFrameHasTheFirstHeader(t *testing.T) {
	for _, retries := range [][]bool{{true, false}, {false, true}, {true, true}, {false, false}} {
		g := head{Kind: api.KindData, Sub: api.SubQos, More: true, Sleep: true, Protected: true, Duration: 7, A1: point, A2: station, A3: server, Seq: 9, Tid: 1, Ack: 2, Retry: retries[0]}
		h := head{Kind: api.KindData, Sub: api.SubQos, FromDs: true, MoreData: true, Duration: 8, A1: point, A2: station, A3: point, Seq: 9, Tid: 1, Frag: 1, Eosp: true, Amsdu: true, Retry: retries[1]}
		_, _, c, _ := wantCollect(t, "first", collector{}, frame{Head: g, Body: []byte{1}}, 10)
		if c.Parts[0].Head != g {
			t.Error(showAll(c))
		}
		whole, done, _, _ := wantCollect(t, "second", c, frame{Head: h, Body: []byte{2}}, 10)
		g.More, g.Retry = false, false
		if !done || !equal(whole, frame{Head: g, Body: []byte{1, 2}}) {
			t.Error(show(whole))
		}
	}
}

func TestCollectLong(t *testing.T) {
	for _, had := range []int{0, 1, 2000, 2303, 2304} {
		c := full(2)
		c.Parts[1].Body = counted(had)
		for _, more := range []bool{false, true} {
			room := counted(2304 - had)
			wantCollectError(t, "2304 bytes", c, piece(c, 1, 1, more, room...), 2000, api.OK)
			if had > 0 {
				wantCollectError(t, "2305 bytes", c, piece(c, 1, 1, more, append(room, 1)...), 2000, api.ErrLong)
			}
			wantCollectError(t, "much more", c, piece(c, 1, 1, more, counted(2304)...), 2000, map[bool]api.Errno{true: api.OK, false: api.ErrLong}[had == 0])
			wantCollectError(t, "a frame that is too long", c, piece(c, 1, 1, more, counted(2305)...), 2000, api.ErrBad)
			wantCollectError(t, "a first one that is too long", c, piece(c, 1, 0, more, counted(2305)...), 2000, api.ErrBad)
			// which fragment it is counts first
			wantCollectError(t, "state before long", c, piece(c, 1, 2, more, append(room, 1)[:min(2304, len(room)+1)]...), 2000, api.ErrState)
		}
	}
	c := full(1)
	c.Parts[0].Next, c.Parts[0].Body = 3, counted(2304)
	wantCollectError(t, "stale before long", c, piece(c, 0, 2, true, 1), 2000, api.ErrStale)
	f := piece(c, 0, 3, true, 1)
	f.Head.Seq++
	wantCollectError(t, "none before long", c, f, 2000, api.ErrNone)
}

func TestCollectErrors(t *testing.T) {
	bad := collector{Parts: []partial{{}}}
	ok := frame{Head: data(5)}
	for _, now := range []int{-1, last + 1, math.MinInt, math.MaxInt} {
		wantCollectError(t, "time", collector{}, ok, now, api.ErrArg)
		wantCollectError(t, "time before frame", full(2), frame{Head: head{Kind: 3}}, now, api.ErrArg)
		wantCollectError(t, "collector before time", bad, ok, now, api.ErrBad)
	}
	for _, now := range []int{0, last} {
		wantCollectError(t, "time", collector{}, ok, now, api.OK)
	}
	for _, h := range heads() {
		f := frame{Head: h}
		if h.Kind == api.KindControl {
			wantCollectError(t, "control", full(2), f, 0, api.ErrArg)
			f.Head.A3 = server
			wantCollectError(t, "control that is not valid", full(2), f, 0, api.ErrBad)
			f.Head.A3, f.Head.More = api.Addr{}, true
			wantCollectError(t, "control with More", full(2), f, 0, api.ErrBad)
			f.Head.More = false
		}
		f.Body = []byte{1}
		if empty(h) {
			wantCollectError(t, "a body that may not be", full(2), f, 0, api.ErrBad)
		} else if h.Kind == api.KindControl {
			wantCollectError(t, "control with a body", full(2), f, 0, api.ErrArg)
			f.Body = counted(2305)
			wantCollectError(t, "control with a long body", full(2), f, 0, api.ErrBad)
		}
	}
	for _, change := range []func(h *head){
		func(h *head) { h.Frag = 16 },
		func(h *head) { h.Frag = -1 },
		func(h *head) { h.Seq = 4096 },
		func(h *head) { h.Tid = 8 },
		func(h *head) { h.A1, h.More = group, true },
		func(h *head) { h.A1, h.Frag = group, 1 },
		func(h *head) { h.A2 = group },
		func(h *head) { h.Sub, h.More = api.SubQosNull, true },
		func(h *head) { h.Sub = 1 },
	} {
		f := piece(full(2), 1, 1, false)
		change(&f.Head)
		wantCollectError(t, "not valid", full(2), f, 0, api.ErrBad)
	}
}

func TestCollectAfterItsTime(t *testing.T) {
	for _, since := range []int{0, 1000, last - life - 1} {
		c := full(3)
		c.Parts[1].Since = since
		c.Parts[0].Since, c.Parts[2].Since = since+1, since+1
		for _, x := range []struct {
			now  int
			want api.Errno
		}{{since, api.OK}, {since + life, api.OK}, {since + life + 1, api.ErrNone}, {max(since-1, 0), api.OK}, {0, api.OK}, {last, api.ErrNone}} {
			wantCollectError(t, fmt.Sprint("since ", since, " at ", x.now), c, piece(c, 1, 1, false, 3), x.now, x.want)
		}
	}
	// Expired ones are removed whatever is collected.
	c := full(3)
	c.Parts[1].Since = 0
	_, _, next, e := wantCollect(t, "another stream", c, piece(c, 2, 1, true, 3), life+1)
	if e != api.OK || len(next.Parts) != 2 || next.Parts[1].Next != 2 {
		t.Error(e, showAll(next))
	}
	if _, _, next, e = wantCollect(t, "a whole frame", c, frame{Head: data(5)}, 2000+life); e != api.OK || len(next.Parts) != 0 {
		t.Error(e, showAll(next))
	}
	// A fragment does not make the time of its frame longer.
	_, _, c, _ = wantCollect(t, "first", collector{}, piece(full(1), 0, 0, true, 3), 1000)
	_, _, c, _ = wantCollect(t, "second", c, piece(full(1), 0, 1, true, 3), 1000+life)
	wantCollectError(t, "third, in time", c, piece(full(1), 0, 2, false, 3), 1000+life, api.OK)
	wantCollectError(t, "third, too late", c, piece(full(1), 0, 2, false, 3), 1001+life, api.ErrNone)
}

func TestCollectInAFullCollector(t *testing.T) {
	first := frame{Head: streams(9)[8], Body: []byte{9}}
	for _, x := range []struct {
		what  string
		since []int
		gone  int
	}{
		{"the first is the oldest", []int{1, 2, 3, 4, 5, 6, 7, 8}, 0},
		{"the last is the oldest", []int{9, 8, 7, 6, 5, 4, 3, 2}, 7},
		{"one is the oldest", []int{9, 8, 7, 1, 5, 4, 3, 2}, 3},
		{"the first of several", []int{9, 4, 7, 4, 5, 4, 4, 8}, 1},
		{"all alike", []int{4, 4, 4, 4, 4, 4, 4, 4}, 0},
		{"later than now", []int{last, last - 1, last - 2, last - 3, last - 4, last - 5, last - 5, last}, 5},
	} {
		c := full(8)
		for i, since := range x.since {
			c.Parts[i].Since = since
		}
		_, done, next, e := wantCollect(t, x.what, c, first, 10)
		want := append(slices.Delete(slices.Clone(c.Parts), x.gone, x.gone+1), partial{Head: first.Head, Next: 1, Body: first.Body, Since: 10})
		if done || e != api.OK || !equalCollectors(next, collector{Parts: want}) {
			t.Error(x.what, done, e, showAll(next))
		}
	}
	c := full(7)
	if _, _, next, _ := wantCollect(t, "the eighth", c, first, 10); len(next.Parts) != 8 {
		t.Error("room for eight:", showAll(next))
	}
	c = full(8)
	c.Parts[6].Since = 0
	if _, _, next, _ := wantCollect(t, "one is expired", c, first, life+1); len(next.Parts) != 8 || next.Parts[0].Head != c.Parts[0].Head {
		t.Error("an expired one makes room:", showAll(next))
	}
	c = full(8)
	if _, _, next, _ := wantCollect(t, "its own stream", c, piece(c, 4, 0, true), 2000); len(next.Parts) != 8 || next.Parts[0].Head != c.Parts[0].Head {
		t.Error("the one of the same stream makes room:", showAll(next))
	}
	whole := first
	whole.Head.More = false
	if _, _, next, _ := wantCollect(t, "a whole frame", c, whole, 2000); !equalCollectors(next, c) {
		t.Error("a whole frame needs no room:", showAll(next))
	}
}

// randomHead returns a header of one of a few streams.
func randomHead(rng *rand.Rand) head {
	h := head{Kind: api.KindData, Sub: api.SubQos, A1: point, A2: station, A3: server, Seq: rng.Intn(3), Retry: rng.Intn(3) == 0, Duration: rng.Intn(2)}
	h.A1[5], h.A2[5] = byte(rng.Intn(2)), byte(rng.Intn(2))
	switch rng.Intn(6) {
	case 0:
		h.Kind, h.Sub = api.KindManage, api.SubAction
	case 1:
		h.Sub = api.SubData
	default:
		h.Tid = rng.Intn(3)
	}
	return h
}

// randomFrame returns a frame, most of which are fragments that are valid.
func randomFrame(rng *rand.Rand) frame {
	f := frame{Head: randomHead(rng), Body: make([]byte, rng.Intn(4))}
	f.Head.More, f.Head.Frag = rng.Intn(4) > 0, max(0, rng.Intn(6)-2)
	rng.Read(f.Body)
	if rng.Intn(4) == 0 {
		f.Body = counted(rng.Intn(2400))
	}
	switch rng.Intn(40) {
	case 0:
		f.Head.A1 = group
	case 1:
		f.Head.Sub += 4
	case 2:
		f.Head = head{Kind: api.KindControl, Sub: uint8(8 + rng.Intn(7)), A1: point}
	case 3:
		f.Head.Seq = rng.Intn(5000)
	}
	return f
}

// TestCollectAnything walks from collector to collector with frames of few streams, so that all that may happen happens often.
func TestCollectAnything(t *testing.T) {
	rng := rand.New(rand.NewSource(1))
	seen := map[api.Errno]int{}
	wholes, fulls := 0, 0
	for range 200 {
		var c collector
		now := rng.Intn(1000)
		for range 300 {
			switch n := rng.Intn(60); {
			case n == 0:
				now = rng.Intn(1 << 21)
			case n == 1:
				now = max(0, now-rng.Intn(life))
			default:
				now += rng.Intn(60_000)
			}
			f := randomFrame(rng)
			if len(c.Parts) > 0 && rng.Intn(2) == 0 {
				p := c.Parts[rng.Intn(len(c.Parts))]
				f.Head = p.Head
				f.Head.Frag, f.Head.More = min(15, max(0, p.Next+max(-1, rng.Intn(6)-4))), rng.Intn(3) > 0
			}
			_, done, next, e := wantCollect(t, "a walk", c, f, now)
			seen[e]++
			if done {
				wholes++
			}
			if e == api.OK {
				c = next
			}
			if len(c.Parts) == 8 {
				fulls++
			}
			if e := fragment.Check(c); e != api.OK {
				t.Fatal("the next collector is none:", e)
			}
			left := expired(c, now+life/2)
			wantExpire(t, "a walk", c, now+life/2, left, len(c.Parts)-len(left.Parts), api.OK)
		}
	}
	for _, e := range []api.Errno{api.OK, api.ErrArg, api.ErrBad, api.ErrNone, api.ErrStale, api.ErrState, api.ErrLong} {
		if seen[e] < 100 {
			t.Errorf("only %d frames with the error %d", seen[e], e)
		}
	}
	if wholes < 100 || fulls < 100 {
		t.Error("only", wholes, "whole frames, and", fulls, "full collectors")
	}
}

// P7.3

func TestExpire(t *testing.T) {
	wantExpire(t, "empty", collector{}, 0, collector{}, 0, api.OK)
	wantExpire(t, "empty", collector{}, last, collector{}, 0, api.OK)
	for now := range 12 {
		c := full(8) // since 1000 to 1007
		gone := min(8, max(0, now-1))
		wantExpire(t, "eight", c, 1000+life-1+now, collector{Parts: full(8).Parts[gone:]}, gone, api.OK)
	}
	c := full(5)
	c.Parts[1].Since, c.Parts[3].Since = 0, 999
	want := full(5)
	want.Parts = []partial{want.Parts[0], want.Parts[2], want.Parts[4]}
	wantExpire(t, "in the middle", c, 1000+life, want, 2, api.OK)
	c = full(1)
	c.Parts[0].Since = last
	for _, now := range []int{0, 1, last - 1, last} {
		wantExpire(t, "later than now", c, now, c, 0, api.OK)
	}
	c.Parts[0].Since = 0
	wantExpire(t, "the whole time", c, last, collector{}, 1, api.OK)
	for _, now := range []int{-1, last + 1, math.MinInt, math.MaxInt} {
		wantExpire(t, "time", collector{}, now, collector{}, 0, api.ErrArg)
		wantExpire(t, "time", full(3), now, collector{}, 0, api.ErrArg)
		wantExpire(t, "collector before time", full(9), now, collector{}, 0, api.ErrBad)
	}
	wantExpire(t, "expired and one too many", full(9), last, collector{}, 0, api.ErrBad)
}

// P7.4

// sent is a fragment on the way, and the frame that it belongs to.
type sent struct {
	part, of frame
	missing  int // how many fragments the frame has
}

// traffics returns the fragments of frames of some streams, in which the sequence numbers differ.
func traffics(rng *rand.Rand, most int) []sent {
	var l []sent
	for s := range most {
		for seq := range 1 + rng.Intn(5) {
			f := frame{Head: streams(most)[s], Body: make([]byte, rng.Intn(40))}
			f.Head.More, f.Head.Seq, f.Head.Retry = false, (4094+seq)%4096, rng.Intn(2) == 0
			rng.Read(f.Body)
			parts, _ := fragment.Cut(f, 3+rng.Intn(10))
			for _, p := range parts {
				l = append(l, sent{p, f, len(parts)})
			}
		}
	}
	return l
}

// TestWhateverHappensToFragments loses, repeats, delays and mixes fragments: what is whole was cut, and it is whole only after all of its fragments.
func TestWhateverHappensToFragments(t *testing.T) {
	rng := rand.New(rand.NewSource(2))
	wholes, many := 0, 0
	for range 2000 {
		l := traffics(rng, 1+rng.Intn(12))
		for i := range l {
			switch j := min(len(l)-1, i+rng.Intn(4)); rng.Intn(8) {
			case 0:
				l[i] = l[j]
			case 1:
				l[i], l[j] = l[j], l[i]
			case 2:
				k := rng.Intn(len(l))
				l[i], l[k] = l[k], l[i]
			}
		}
		var c collector
		now := 0
		for i, s := range l {
			now += rng.Intn(20_000)
			s.part.Head.Retry = rng.Intn(2) == 0
			whole, done, next, e := fragment.Collect(c, s.part, now)
			if e == api.OK {
				c = next
			}
			if !done {
				continue
			}
			want := s.of
			want.Head.Retry = false
			if !equal(whole, want) {
				t.Fatalf("cut: %s, whole: %s", show(want), show(whole))
			}
			got := map[int]bool{}
			for _, r := range l[:i+1] {
				if equal(r.of, s.of) {
					got[r.part.Head.Frag] = true
				}
			}
			if len(got) < s.missing {
				t.Fatalf("%s is whole after %d of %d fragments", show(whole), len(got), s.missing)
			}
			wholes++
			if s.missing > 1 {
				many++
			}
		}
	}
	if wholes < 1000 || many < 1000 {
		t.Error("only", wholes, "whole frames,", many, "of several fragments")
	}
}

// TestExactlyOnce sends the fragments of a frame in order, with repetitions and with fragments of seven other streams between them, from any collector.
func TestExactlyOnce(t *testing.T) {
	rng := rand.New(rand.NewSource(3))
	for range 3000 {
		f := frame{Head: streams(12)[rng.Intn(12)], Body: make([]byte, 2+rng.Intn(100))}
		f.Head.More, f.Head.Seq = false, 7
		rng.Read(f.Body)
		parts, e := fragment.Cut(f, (len(f.Body)+15)/(2+rng.Intn(15)))
		if e != api.OK || len(parts) < 2 {
			continue
		}
		others := slices.DeleteFunc(streams(12), func(h head) bool { return sameStream(h, f.Head) })
		var c collector
		now := 5
		for _, h := range others[rng.Intn(5):] { // what was there before
			_, _, c, _ = fragment.Collect(c, frame{Head: h}, now)
		}
		rng.Shuffle(len(others), func(i, j int) { others[i], others[j] = others[j], others[i] })
		from, wholes := now, 0
		collect := func(g frame) (whole frame, done bool, e api.Errno) {
			now = min(now+rng.Intn(6000), from+life)
			whole, done, next, e := fragment.Collect(c, g, now)
			if e == api.OK {
				c = next
			}
			return whole, done, e
		}
		for i, p := range parts {
			whole, done, e := collect(p)
			if e != api.OK || done != (i == len(parts)-1) {
				t.Fatalf("fragment %d of %d: %v, error %d, %s", i, len(parts), done, e, showAll(c))
			}
			if i == 0 {
				from = now
			}
			if done && equal(whole, f) {
				wholes++
			}
			for range rng.Intn(8) {
				if i > 0 && rng.Intn(3) == 0 {
					again := parts[1+rng.Intn(i)]
					again.Head.Retry = true
					if _, done, e := collect(again); done || e == api.OK {
						t.Fatalf("a repetition is collected: %s", show(again))
					}
					continue
				}
				h := others[rng.Intn(7)]
				h.Frag, h.Seq, h.More = max(0, rng.Intn(6)-3), rng.Intn(2), rng.Intn(4) > 0
				collect(frame{Head: h, Body: []byte{byte(i)}})
			}
		}
		if wholes != 1 {
			t.Fatalf("%s: %d times", show(f), wholes)
		}
	}
}

// R2

// guarded returns a copy of b with further memory behind its length.
func guarded(b []byte) []byte {
	return append(slices.Concat(b, []byte{0})[:len(b)], 1, 2, 3, 4, 5, 6, 7, 8, 9)[:len(b)]
}

func guardedCollector(c collector) collector {
	var l []partial
	for _, p := range c.Parts {
		p.Body = guarded(p.Body)
		l = append(l, p)
	}
	return collector{Parts: append(l, partial{Next: 77, Body: []byte{9}}, partial{Since: 78})[:len(c.Parts)]}
}

// everything returns all that is in a collector and a frame, the memory behind the lengths included.
func everything(c collector, f frame) string {
	s := fmt.Sprint(f.Head, f.Body[:cap(f.Body)])
	for _, p := range c.Parts[:cap(c.Parts)] {
		s += fmt.Sprint(p.Head, p.Next, p.Body[:cap(p.Body)], p.Since)
	}
	return s
}

// spoil changes all memory of a collector and a frame.
func spoil(c collector, f frame) {
	spoilBytes(f.Body)
	for i, p := range c.Parts[:cap(c.Parts)] {
		spoilBytes(p.Body)
		c.Parts[:cap(c.Parts)][i] = partial{Next: p.Next + 1, Since: p.Since + 1, Body: []byte{3}}
	}
}

func spoilBytes(b []byte) {
	b = b[:cap(b)]
	for i := range b {
		b[i] ^= 255
	}
}

func TestArgumentsOfCut(t *testing.T) {
	for _, n := range []int{0, 1, 5, 6, 7, 90} {
		for _, size := range []int{6, 100} {
			f := frame{Head: data(5), Body: guarded(counted(n))}
			before := everything(collector{}, f)
			l, e := fragment.Cut(f, size)
			again, _ := fragment.Cut(f, size)
			if e != api.OK {
				t.Fatal(n, e)
			}
			want := fragments(frame{Head: f.Head, Body: counted(n)}, size)
			for i := range l {
				spoil(collector{}, l[i])
				if everything(collector{}, f) != before || !slices.EqualFunc(l[i+1:], want[i+1:], equal) || !slices.EqualFunc(again, want, equal) {
					t.Fatalf("%d bytes at size %d: fragment %d shares memory", n, size, i)
				}
			}
			spoil(collector{}, f)
			if !slices.EqualFunc(again, want, equal) {
				t.Fatalf("%d bytes at size %d: a result shares memory with the argument", n, size)
			}
		}
	}
}

// TestArgumentsOfCollect has all ways of collecting, with a collector in which one of three is expired.
func TestArgumentsOfCollect(t *testing.T) {
	for which := range 16 {
		for _, parts := range []int{3, 8} {
			c := full(parts)
			c.Parts[parts-1].Since = 0
			c.Parts[0].Body = nil
			f := piece(c, which%4*(parts-1)/3, which/4%2, which/8 == 0, 5, 6, 7)
			if which%4 == 3 {
				f.Head.A2 = api.Addr{2, 9}
			}
			for _, now := range []int{10, life + 10} {
				c, f := guardedCollector(c), frame{Head: f.Head, Body: guarded(f.Body)}
				wholeWant, _, nextWant, wantE := collected(c, f, now)
				wholeWant.Body = bytes.Clone(wholeWant.Body)
				nextWant = guardedCollector(nextWant)
				before := everything(c, f)
				whole, _, next, _ := fragment.Collect(c, f, now)
				again, _, nextAgain, e := fragment.Collect(c, f, now)
				spoil(collector{}, whole)
				if everything(c, f) != before || !equalCollectors(next, nextWant) {
					t.Fatalf("%d %d at %d: the whole frame shares memory", which, parts, now)
				}
				for i := range next.Parts {
					spoilBytes(next.Parts[i].Body)
					if !slices.EqualFunc(next.Parts[i+1:], nextWant.Parts[i+1:], equalParts) {
						t.Fatalf("%d %d at %d: parts share memory", which, parts, now)
					}
				}
				spoil(next, frame{})
				if everything(c, f) != before {
					t.Fatalf("%d %d at %d: the next collector shares memory with an argument", which, parts, now)
				}
				spoil(c, f)
				if e != wantE || !equal(again, wholeWant) || !equalCollectors(nextAgain, nextWant) {
					t.Fatalf("%d %d at %d: a result shares memory with another or with an argument", which, parts, now)
				}
			}
		}
	}
}

func TestArgumentsOfExpire(t *testing.T) {
	for _, now := range []int{0, 1000 + life, 1003 + life, 1010 + life} {
		c := guardedCollector(full(6))
		want := expired(full(6), now)
		before := everything(c, frame{})
		fragment.Check(c)
		next, _, _ := fragment.Expire(c, now)
		again, _, _ := fragment.Expire(c, now)
		spoil(next, frame{})
		if everything(c, frame{}) != before {
			t.Fatalf("at %d: the argument was changed, or shares memory with the result", now)
		}
		spoil(c, frame{})
		if !equalCollectors(again, want) {
			t.Fatalf("at %d: a result shares memory with another or with the argument", now)
		}
	}
}

// R3

func TestNilAndEmptyAreEqual(t *testing.T) {
	some := collector{Parts: []partial{}}
	wantCheck(t, "empty", some, api.OK)
	wantExpire(t, "empty", some, 5, collector{}, 0, api.OK)
	f := frame{Head: data(5), Body: []byte{}}
	wantCut(t, "empty", f, 5)
	wantCollectError(t, "empty", some, f, 5, api.OK)
	f.Head.Sub = api.SubQosNull
	wantCut(t, "an empty body of a null frame", f, 5)
	wantCollectError(t, "an empty body of a null frame", some, f, 5, api.OK)
	c := full(1)
	c.Parts[0].Body = []byte{}
	wantCollectError(t, "an empty part", c, piece(c, 0, 1, false), 5, api.OK)
}

// R7

func TestLargeArguments(t *testing.T) {
	wantCutError(t, "a large body", frame{Head: data(5), Body: make([]byte, 1<<26)}, 1, api.ErrLong)
	wantCollectError(t, "a large body", collector{}, frame{Head: data(5), Body: make([]byte, 1<<26)}, 1, api.ErrBad)
	if e := fragment.Check(collector{Parts: make([]partial, 1<<20)}); e != api.ErrBad {
		t.Error("many parts: error", e)
	}
	c := full(1)
	c.Parts[0].Body = make([]byte, 1<<26)
	wantCheck(t, "a large part", c, api.ErrBad)
	for _, n := range []int{math.MinInt, math.MaxInt} {
		for _, change := range []func(p *partial){
			func(p *partial) { p.Next = n },
			func(p *partial) { p.Since = n },
			func(p *partial) { p.Head.Seq = n },
			func(p *partial) { p.Head.Frag = n },
			func(p *partial) { p.Head.Tid = n },
			func(p *partial) { p.Head.Duration = n },
		} {
			c := full(2)
			change(&c.Parts[1])
			wantCheck(t, "extremes", c, api.ErrBad)
			wantCollectError(t, "extremes", collector{}, frame{Head: c.Parts[1].Head}, 0, collectedError(c.Parts[1].Head))
			wantCut(t, "extremes", frame{Head: c.Parts[1].Head}, n)
		}
	}
}

func collectedError(h head) api.Errno {
	_, _, _, e := collected(collector{}, frame{Head: h}, 0)
	return e
}

// FuzzCollect takes three bytes for a frame and the time since the last one.
func FuzzCollect(f *testing.F) {
	f.Add([]byte{0, 1, 1, 16, 1, 1, 32, 0, 1}, 20)
	f.Add(bytes.Repeat([]byte{1, 1, 9, 2, 1, 8, 3, 1, 7, 200, 1, 200}, 6), 2304)
	f.Fuzz(func(t *testing.T, b []byte, size int) {
		var c collector
		now := 0
		for ; len(b) > 2; b = b[3:] {
			g := frame{Head: data(int(b[1] >> 6)), Body: counted(min(2400, max(0, size)))}
			g.Head.A2[5], g.Head.Frag, g.Head.More = b[0]%16, int(b[0]>>4), b[1]%2 == 1
			g.Head.Retry, g.Head.Sub = b[1]&2 > 0, b[1]&12
			now += int(b[2]) * 3000
			if _, _, next, e := wantCollect(t, "frames", c, g, now); e == api.OK {
				c = next
			}
			g.Head.Frag, g.Head.More = 0, false
			wantCut(t, "frames", g, int(b[2]))
			if e := fragment.Check(c); e != api.OK {
				t.Fatal("the next collector is none:", e)
			}
		}
	})
}
