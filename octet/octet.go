// Package octet is layer 1: see shared/doc/01-octet.md.
package octet

import (
	"iter"
	"math/bits"
	"slices"

	"hotspot/api"
)

const (
	textMost   = 1<<8 - 1  // bytes of a text
	fieldMost  = 1<<16 - 1 // bytes of a field
	fieldsMost = 256       // fields that are joined
	wordBits   = 64        // bits of the numbers of Bits and SetBits
)

// number is what can be written in a fixed width.
type number interface {
	uint8 | uint16 | uint32 | uint64
}

func Check(r api.Reader) api.Errno {
	if r.At < 0 || r.At > len(r.Data) {
		return api.ErrBad
	}
	return api.OK
}

func U8(r api.Reader) (uint8, api.Reader, api.Errno) { return get[uint8](r) }

func U16(r api.Reader) (uint16, api.Reader, api.Errno) { return get[uint16](r) }

func U32(r api.Reader) (uint32, api.Reader, api.Errno) { return get[uint32](r) }

func U64(r api.Reader) (uint64, api.Reader, api.Errno) { return get[uint64](r) }

func Take(r api.Reader, n int) ([]byte, api.Reader, api.Errno) {
	b, rest, e := cut(r, n)
	return slices.Clone(b), rest, e
}

func Text(r api.Reader) ([]byte, api.Reader, api.Errno) { return getSized[uint8](r) }

func Done(r api.Reader) api.Errno {
	if e := Check(r); e != api.OK {
		return e
	}
	if r.At < len(r.Data) {
		return api.ErrLong
	}
	return api.OK
}

func Put8(b []byte, v uint8) []byte { return put(b, v) }

func Put16(b []byte, v uint16) []byte { return put(b, v) }

func Put32(b []byte, v uint32) []byte { return put(b, v) }

func Put64(b []byte, v uint64) []byte { return put(b, v) }

func PutText(b, s []byte) ([]byte, api.Errno) {
	if len(s) > textMost {
		return nil, api.ErrLong
	}
	return addSized[uint8](grown(b, width[uint8]()+len(s)), s), api.OK
}

func Join(l [][]byte) ([]byte, api.Errno) {
	if len(l) > fieldsMost {
		return nil, api.ErrMany
	}
	size := 0
	for _, f := range l {
		if len(f) > fieldMost {
			return nil, api.ErrLong
		}
		size += width[uint16]() + len(f)
	}
	b := make([]byte, 0, size)
	for _, f := range l {
		b = addSized[uint16](b, f)
	}
	return b, api.OK
}

func Split(b []byte) ([][]byte, api.Errno) {
	var l [][]byte
	for f, e := range fields(b) {
		// Bytes are left here, whether or not they are a whole field: the count decides first.
		if len(l) == fieldsMost {
			return nil, api.ErrMany
		}
		if e != api.OK {
			return nil, e
		}
		l = append(l, f)
	}
	return l, api.OK
}

func Bits(v uint64, at, n int) (uint64, api.Errno) {
	if !within(at, n) {
		return 0, api.ErrArg
	}
	return v >> at & ones(n), api.OK
}

func SetBits(v uint64, at, n int, x uint64) (uint64, api.Errno) {
	if !within(at, n) {
		return 0, api.ErrArg
	}
	if x > ones(n) {
		return 0, api.ErrLong
	}
	return v&^(ones(n)<<at) | x<<at, api.OK
}

// cut removes n bytes from the front; they are still those of the reader.
func cut(r api.Reader, n int) ([]byte, api.Reader, api.Errno) {
	if e := Check(r); e != api.OK {
		return nil, api.Reader{}, e
	}
	if n < 0 {
		return nil, api.Reader{}, api.ErrArg
	}
	if n > len(r.Data)-r.At {
		return nil, api.Reader{}, api.ErrShort
	}
	end := r.At + n
	return r.Data[r.At:end], api.Reader{Data: r.Data, At: end}, api.OK
}

// width is the number of bytes of a number of type T.
func width[T number]() int { return bits.Len64(uint64(^T(0))) / 8 }

func get[T number](r api.Reader) (T, api.Reader, api.Errno) {
	b, rest, e := cut(r, width[T]())
	var v uint64
	for i, c := range b {
		v |= uint64(c) << (8 * i)
	}
	return T(v), rest, e
}

// getSized reads a byte string whose length is a number of type T.
func getSized[T uint8 | uint16](r api.Reader) ([]byte, api.Reader, api.Errno) {
	n, rest, e := get[T](r)
	if e != api.OK {
		return nil, api.Reader{}, e
	}
	return Take(rest, int(n))
}

// fields goes through the fields of which b is the joined form. It ends after the first error.
func fields(b []byte) iter.Seq2[[]byte, api.Errno] {
	return func(yield func([]byte, api.Errno) bool) {
		r := api.Reader{Data: b}
		for r.At < len(r.Data) {
			f, rest, e := getSized[uint16](r)
			if !yield(f, e) || e != api.OK {
				return
			}
			r = rest
		}
	}
}

// grown is a copy of b with space for n more bytes: the space behind b itself may be in use by the caller.
func grown(b []byte, n int) []byte {
	return append(make([]byte, 0, len(b)+n), b...)
}

func put[T number](b []byte, v T) []byte { return add(grown(b, width[T]()), v) }

// add appends a number to b, which must be memory of our own.
func add[T number](b []byte, v T) []byte {
	for i := range width[T]() {
		b = append(b, byte(uint64(v)>>(8*i)))
	}
	return b
}

// addSized appends the length of s, as a number of type T, and s to b, which must be memory of our own.
func addSized[T uint8 | uint16](b, s []byte) []byte {
	return append(add(b, T(len(s))), s...)
}

// within tells whether the bits at to at + n - 1 exist. It does not form at + n, which may overflow.
func within(at, n int) bool {
	return at >= 0 && n >= 1 && n <= wordBits-at
}

// ones is the greatest number of n bits.
func ones(n int) uint64 { return uint64(1)<<n - 1 }
