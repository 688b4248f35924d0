// Package pack is layer 1: numbers, integers, texts and bytes, each written in one way alone, and read again. See shared/doc/01-pack.md.
package pack

import (
	"slices"
	"strings"

	"twinlock/api"
)

// longest is how many bytes a number has at most: 64 bits, seven by seven.
const longest = 10

// Out is what was written. An Out may be copied, and both written on: the room that they share tells how far it is taken.
type Out struct {
	room *[]byte
	n    int
}

// put puts bytes behind what was written.
func (o *Out) put(b ...byte) {
	if o == nil {
		return
	}
	if o.room == nil {
		o.room = new([]byte)
	}
	// Behind a copy's bytes nothing may be laid over: then this Out moves to a room of its own.
	if len(*o.room) != o.n {
		own := slices.Clone((*o.room)[:o.n])
		o.room = &own
	}
	*o.room = append(*o.room, b...)
	o.n = len(*o.room)
}

// Num writes a number.
func (o *Out) Num(n uint64) {
	for n > 127 {
		o.put(byte(n) | 128)
		n >>= 7
	}
	o.put(byte(n))
}

// Int writes an integer.
func (o *Out) Int(n int64) {
	// All bits of n>>63 are n's sign: below 0 this is 2 (-n - 1) + 1, which never overflows.
	o.Num(uint64(n)<<1 ^ uint64(n>>63))
}

// Text writes a text.
func (o *Out) Text(s string) {
	o.Num(uint64(len(s)))
	o.put([]byte(s)...)
}

// Byte writes a byte.
func (o *Out) Byte(b byte) { o.put(b) }

// String is all that was written.
func (o *Out) String() string {
	if o == nil || o.room == nil {
		return ""
	}
	return string((*o.room)[:o.n])
}

// In is a reader: it has read at bytes of its text. Behind a failure it stands still.
type In struct {
	text  string
	at    int
	fault api.Errno
}

// Of is a reader that has read nothing of s.
func Of(s string) *In { return &In{text: strings.Clone(s)} }

// rest is what was not read.
func (x *In) rest() string {
	if x == nil {
		return ""
	}
	return x.text[x.at:]
}

// step reads so many bytes, or fails with e, and says whether they were read. A nil reader has no room to keep a failure.
func (x *In) step(size int, e api.Errno) bool {
	if x == nil {
		return false
	}
	if x.fault == api.OK {
		x.fault = e
	}
	if x.fault != api.OK {
		return false
	}
	x.at += size
	return true
}

// number is the number that begins s, and how many bytes it has.
func number(s string) (n uint64, size int, e api.Errno) {
	for size < longest {
		if size == len(s) {
			return 0, 0, api.ErrShort
		}
		b := s[size]
		n |= uint64(b&127) << (7 * size)
		size++
		if b > 127 {
			continue
		}
		// A nought at the end would be a second way to write n; the tenth byte has the 64th bit alone.
		if size > 1 && b == 0 || size == longest && b > 1 {
			return 0, 0, api.ErrForm
		}
		return n, size, api.OK
	}
	return 0, 0, api.ErrForm
}

// count is the number that begins s, if it is at most most.
func count(s string, most int) (n, size int, e api.Errno) {
	v, size, e := number(s)
	if e == api.OK && (most < 0 || v > uint64(most)) {
		e = api.ErrForm
	}
	if e != api.OK {
		return 0, 0, e
	}
	return int(v), size, api.OK
}

// Num reads a number.
func (x *In) Num() uint64 {
	n, size, e := number(x.rest())
	if !x.step(size, e) {
		return 0
	}
	return n
}

// Most reads a number that is at most most.
func (x *In) Most(most int) int {
	n, size, e := count(x.rest(), most)
	if !x.step(size, e) {
		return 0
	}
	return n
}

// Int reads an integer.
func (x *In) Int() int64 {
	n := x.Num()
	return int64(n>>1) ^ -int64(n&1)
}

// Text reads a text of at most most bytes.
func (x *In) Text(most int) string {
	rest := x.rest()
	n, size, e := count(rest, most)
	if e == api.OK && n > len(rest)-size {
		e = api.ErrShort
	}
	if !x.step(size+n, e) {
		return ""
	}
	return strings.Clone(rest[size : size+n])
}

// Byte reads a byte.
func (x *In) Byte() byte {
	rest := x.rest()
	e := api.OK
	if rest == "" {
		e = api.ErrShort
	}
	if !x.step(1, e) {
		return 0
	}
	return rest[0]
}

// Left is how many bytes were not read.
func (x *In) Left() int { return len(x.rest()) }

// Fault is the first failure, and how many bytes were read ahead of it.
func (x *In) Fault() (api.Errno, int) {
	if x == nil || x.fault == api.OK {
		return api.OK, 0
	}
	return x.fault, x.at
}

// End is the first failure's error; without one it asks that all was read.
func (x *In) End() api.Errno {
	if e, _ := x.Fault(); e != api.OK {
		return e
	}
	if x.Left() > 0 {
		return api.ErrForm
	}
	return api.OK
}
