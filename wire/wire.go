// Package wire is layer 1: see shared/doc/01-wire.md.
package wire

import "garner/api"

// A digit to the base 128 lies in the lower bits; the highest bit says that another one follows.
const (
	digit   = 0x7f
	follows = 0x80
	shift   = 7
	last    = 9 // the place of a number's last digit, which has one bit only
)

// Reader goes over bytes.
type Reader struct {
	b    []byte
	at   int
	open bool
}

// Number is the form of a number.
func Number(n uint64) []byte {
	var b []byte
	for n > digit {
		b = append(b, byte(n)|follows)
		n >>= shift
	}
	return append(b, byte(n))
}

// Signed is the form of a signed number.
func Signed(n int64) []byte {
	return Number(uint64(n)<<1 ^ uint64(n>>63))
}

// Flag is the form of a flag.
func Flag(is bool) []byte {
	if is {
		return []byte{1}
	}
	return []byte{0}
}

// Bytes is the form of bytes.
func Bytes(b []byte) []byte {
	return Join(Number(uint64(len(b))), b)
}

// Join is all bytes, one behind the other.
func Join(l ...[]byte) []byte {
	var all []byte
	for _, b := range l {
		all = append(all, b...)
	}
	return all
}

// Put is the form of a list, of which form makes each one's.
func Put[T any](l []T, form func(T) []byte) ([]byte, api.Errno) {
	if form == nil {
		return nil, api.ErrNil
	}
	b := Number(uint64(len(l)))
	for _, x := range l {
		b = append(b, form(x)...)
	}
	return b, api.OK
}

// Open is a reader at the beginning of these bytes.
func Open(b []byte) *Reader {
	return &Reader{b: Join(b), open: true}
}

func (r *Reader) none() bool { return r == nil || !r.open }

// Number reads a number.
func (r *Reader) Number() (uint64, api.Errno) {
	if r.none() {
		return 0, api.ErrNil
	}
	var n uint64
digits:
	for i, c := range r.b[r.at:] {
		switch {
		case i > 0 && c == 0, i == last && c > 1:
			break digits
		}
		n |= uint64(c&digit) << (shift * i)
		if c&follows == 0 {
			r.at += i + 1
			return n, api.OK
		}
	}
	return 0, api.ErrBytes
}

// Signed reads a signed number.
func (r *Reader) Signed() (int64, api.Errno) {
	n, e := r.Number()
	if e != api.OK {
		return 0, e
	}
	return int64(n>>1) ^ -int64(n&1), api.OK
}

// Flag reads a flag.
func (r *Reader) Flag() (bool, api.Errno) {
	if r.none() {
		return false, api.ErrNil
	}
	if r.Left() == 0 || r.b[r.at] > 1 {
		return false, api.ErrBytes
	}
	is := r.b[r.at] == 1
	r.at++
	return is, api.OK
}

// Bytes reads bytes, at most so many.
func (r *Reader) Bytes(most int) ([]byte, api.Errno) {
	if r.none() {
		return nil, api.ErrNil
	}
	before := *r
	n, e := r.count(most)
	if e == api.OK && n > uint64(r.Left()) {
		e = api.ErrBytes
	}
	if e != api.OK {
		*r = before
		return nil, e
	}
	b := Join(r.b[r.at : r.at+int(n)])
	r.at += int(n)
	return b, api.OK
}

// count reads how many there are, where at most so many may be.
func (r *Reader) count(most int) (uint64, api.Errno) {
	if most < 0 {
		return 0, api.ErrArg
	}
	n, e := r.Number()
	if e == api.OK && n > uint64(most) {
		return 0, api.ErrLong
	}
	return n, e
}

// Left is how many bytes there are behind where the reader is.
func (r *Reader) Left() int {
	if r.none() {
		return 0
	}
	return len(r.b) - r.at
}

// End tells whether nothing is left.
func (r *Reader) End() api.Errno {
	switch {
	case r.none():
		return api.ErrNil
	case r.Left() > 0:
		return api.ErrBytes
	}
	return api.OK
}

// Take reads a list, of which one reads each.
func Take[T any](r *Reader, most int, one func(*Reader) (T, api.Errno)) ([]T, api.Errno) {
	if r.none() || one == nil {
		return nil, api.ErrNil
	}
	before := *r
	n, e := r.count(most)
	var l []T
	for i := uint64(0); i < n && e == api.OK; i++ {
		var x T
		x, e = one(r)
		l = append(l, x)
	}
	if e != api.OK {
		*r = before
		return nil, e
	}
	return l, api.OK
}
