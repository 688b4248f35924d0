package ring_test

import (
	"crypto/aes"
	"crypto/cipher"
	"crypto/hmac"
	"crypto/sha256"
	"encoding/binary"
	"math"
	"math/rand"
	"strings"
	"testing"

	"twinlock/api"
	"twinlock/ring"
)

// maxRing, maxSeal and tagSize are the document's.
const (
	maxRing = 1 << 20
	maxSeal = 8192
	tagSize = 32
)

// sum is a text's tag under a key, as others tell it.
func sum(key, text string) (h [32]byte) {
	x := hmac.New(sha256.New, []byte(key))
	x.Write([]byte(text))
	return [32]byte(x.Sum(nil))
}

// keyOf is a master's key i, as the chapter tells it.
func keyOf(master string, i int) string {
	h := sum(master, "ring"+string(binary.BigEndian.AppendUint64(nil, uint64(i))))
	return string(h[:])
}

// own is a key's own by a label.
func own(key, label string) string {
	h := sum(key, label)
	return string(h[:])
}

// streamed is a text's stream under a key with the nonce of an envelope.
func streamed(key string, x api.Envelope, text string) string {
	c, err := aes.NewCipher([]byte(own(key, "enc")))
	if err != nil {
		panic(err)
	}
	first := binary.BigEndian.AppendUint32(nil, x.Boot)
	first = binary.BigEndian.AppendUint64(first, x.N)
	b := []byte(text)
	cipher.NewCTR(c, append(first, 0, 0, 0, 0)).XORKeyStream(b, b)
	return string(b)
}

// number is a number's bytes; textOf a text's.
func number(n uint64) string { return string(binary.AppendUvarint(nil, n)) }
func textOf(s string) string { return number(uint64(len(s))) + s }

// numbersOf are the bytes of an envelope's numbers.
func numbersOf(x api.Envelope) string {
	return number(uint64(x.Key)) + number(uint64(x.Boot)) + number(x.N)
}

// tagOf is the tag of an envelope's other fields under a key.
func tagOf(key string, x api.Envelope, about string) api.Hash {
	return sum(own(key, "mac"), numbersOf(x)+textOf(about)+textOf(x.Data))
}

// bytesOf are an envelope's bytes.
func bytesOf(x api.Envelope) string { return numbersOf(x) + textOf(x.Data) + string(x.Tag[:]) }

// sealed is the bytes of what a text is sealed to under a key, of whatever number.
func sealed(key string, i int, boot uint32, n uint64, about, text string) string {
	x := api.Envelope{Key: i, Boot: boot, N: n}
	x.Data = streamed(key, x, text)
	x.Tag = tagOf(key, x, about)
	return bytesOf(x)
}

// source is what readOf has still to read, and its first fault.
type source struct {
	rest string
	e    api.Errno
}

// fails keeps the first fault.
func (s *source) fails(e api.Errno) {
	if s.e == api.OK {
		s.e = e
	}
}

// number reads a number of at most most.
func (s *source) number(most uint64) uint64 {
	end := 0
	for end < len(s.rest) && end < 9 && s.rest[end] >= 128 {
		end++
	}
	if end == len(s.rest) {
		s.fails(api.ErrShort)
		return 0
	}
	n, size := binary.Uvarint([]byte(s.rest))
	if size != end+1 || number(n) != s.rest[:size] || n > most {
		s.fails(api.ErrForm)
		return 0
	}
	s.rest = s.rest[size:]
	return n
}

// bytes reads so many bytes.
func (s *source) bytes(n int) string {
	if n > len(s.rest) {
		s.fails(api.ErrShort)
		return ""
	}
	b := s.rest[:n]
	s.rest = s.rest[n:]
	return b
}

// readOf is the envelope of bytes, as the chapter of envelopes tells it.
func readOf(b string) (x api.Envelope, e api.Errno) {
	s := &source{rest: b}
	for _, read := range []func(){
		func() { x.Key = int(s.number(maxRing)) },
		func() { x.Boot = uint32(s.number(math.MaxUint32)) },
		func() { x.N = s.number(math.MaxUint64) },
		func() { x.Data = s.bytes(int(s.number(maxSeal))) },
		func() { copy(x.Tag[:], s.bytes(tagSize)) },
	} {
		if read(); s.e != api.OK {
			return api.Envelope{}, s.e
		}
	}
	if s.rest != "" {
		return api.Envelope{}, api.ErrForm
	}
	return x, api.OK
}

// reckoning is a ring as the chapter tells it.
type reckoning struct {
	master  string
	current int
	boot    uint32
	n       uint64
}

// wrap is what Wrap answers.
func (r *reckoning) wrap(about, text string) (string, api.Errno) {
	if len(text) > maxSeal {
		return "", api.ErrLong
	}
	b := sealed(keyOf(r.master, r.current), r.current, r.boot, r.n, about, text)
	r.n++
	return b, api.OK
}

// open is what Open answers.
func (r *reckoning) open(b, about string) (string, api.Errno) {
	x, e := readOf(b)
	if e != api.OK {
		return "", e
	}
	if x.Key > r.current {
		return "", api.ErrKey
	}
	key := keyOf(r.master, x.Key)
	if tagOf(key, x, about) != x.Tag {
		return "", api.ErrMac
	}
	return streamed(key, x, x.Data), api.OK
}

// asked is a ring that is asked, and what the chapter tells of it.
type asked struct {
	ring *ring.Ring
	told reckoning
}

// start is a new ring.
func start(t *testing.T, master string, current int, boot uint32) *asked {
	t.Helper()
	r, e := ring.New(master, current, boot)
	if e != api.OK || r == nil {
		t.Fatalf("New of current %d, boot %d: %d", current, boot, e)
	}
	a := &asked{r, reckoning{master: master, current: current, boot: boot}}
	a.stands(t)
	return a
}

// stands asks how the ring stands.
func (a *asked) stands(t *testing.T) {
	t.Helper()
	if i := a.ring.Current(); i != a.told.current {
		t.Fatalf("Current is %d, not %d", i, a.told.current)
	}
	if boot, n := a.ring.Count(); boot != a.told.boot || n != a.told.n {
		t.Fatalf("Count is %d, %d, not %d, %d", boot, n, a.told.boot, a.told.n)
	}
}

// rotate asks Rotate.
func (a *asked) rotate(t *testing.T) {
	t.Helper()
	want := api.ErrFull
	if a.told.current < maxRing {
		want = api.OK
		a.told.current++
	}
	if e := a.ring.Rotate(); e != want {
		t.Fatalf("Rotate is answered %d, not %d", e, want)
	}
	a.stands(t)
}

// wrap asks Wrap, and tells the bytes.
func (a *asked) wrap(t *testing.T, about, text string) string {
	t.Helper()
	want, f := a.told.wrap(about, text)
	b, e := a.ring.Wrap(about, text)
	if b != want || e != f {
		t.Fatalf("Wrap of %d bytes about %q: %d and %x, not %d and %x", len(text), about, e, b, f, want)
	}
	a.stands(t)
	return b
}

// open asks Open, and tells the answer.
func (a *asked) open(t *testing.T, b, about string) (string, api.Errno) {
	t.Helper()
	want, f := a.told.open(b, about)
	s, e := a.ring.Open(b, about)
	if s != want || e != f {
		t.Fatalf("Open of %x about %q: %d and %q, not %d and %q", b, about, e, s, f, want)
	}
	a.stands(t)
	return s, e
}

// opens asks that bytes are opened to a text.
func (a *asked) opens(t *testing.T, b, about, text string) {
	t.Helper()
	if s, e := a.open(t, b, about); e != api.OK || s != text {
		t.Fatalf("Open of %x about %q: %d and %q, not %q", b, about, e, s, text)
	}
}

// shut asks that bytes are not opened, and why.
func (a *asked) shut(t *testing.T, b, about string, want api.Errno) {
	t.Helper()
	if s, e := a.open(t, b, about); e != want || s != "" {
		t.Fatalf("Open of %x about %q: %d and %q, not %d", b, about, e, s, want)
	}
}

// rewrap asks Rewrap, and tells the answer.
func (a *asked) rewrap(t *testing.T, b, about string, to *asked, other string) (string, api.Errno) {
	t.Helper()
	want, f := a.told.open(b, about)
	if f == api.OK {
		want, f = to.told.wrap(other, want)
	}
	s, e := a.ring.Rewrap(b, about, to.ring, other)
	if s != want || e != f {
		t.Fatalf("Rewrap of %x about %q, then about %q: %d and %x, not %d and %x", b, about, other, e, s, f, want)
	}
	a.stands(t)
	to.stands(t)
	return s, e
}

// rewrapped asks that bytes are wrapped anew, and tells the new ones.
func (a *asked) rewrapped(t *testing.T, b, about string, to *asked, other string) string {
	t.Helper()
	s, e := a.rewrap(t, b, about, to, other)
	if e != api.OK {
		t.Fatalf("Rewrap of %x about %q: %d", b, about, e)
	}
	return s
}

// kept asks that bytes are not wrapped anew, and why.
func (a *asked) kept(t *testing.T, b, about string, to *asked, other string, want api.Errno) {
	t.Helper()
	if s, e := a.rewrap(t, b, about, to, other); e != want || s != "" {
		t.Fatalf("Rewrap of %x about %q: %d and %x, not %d", b, about, e, s, want)
	}
}

// some is a text of n bytes, the same one for the same n and seed.
func some(n int, seed int64) string {
	b := make([]byte, n)
	rand.New(rand.NewSource(seed)).Read(b)
	return string(b)
}

// all is a text of all bytes.
func all() string {
	b := make([]byte, 256)
	for i := range b {
		b[i] = byte(i)
	}
	return string(b)
}

// turned is a text with one bit turned.
func turned(s string, i int) string {
	b := []byte(s)
	b[i/8] ^= 1 << (i % 8)
	return string(b)
}

// Keys' numbers that a ring may have, and such that it may not; boots; counts; texts' lengths about a block's end, and where a length takes another byte.
var (
	numbers = []int{0, 1, 2, 127, 128, 16383, 16384, maxRing - 1, maxRing}
	beyond  = []int{-1, -2, math.MinInt, math.MinInt + maxRing, -1 << 32, maxRing + 1, maxRing + 2, 1 << 21, 1 << 31, 1 << 32, 1<<32 + 1, math.MaxInt}
	boots   = []uint32{0, 1, 127, 128, 255, 256, 0x01020304, 1 << 31, math.MaxUint32 - 1, math.MaxUint32}
	counts  = []uint64{0, 1, 127, 128, 255, 256, math.MaxUint32, 1 << 32, 0x0102030405060708, 1<<63 - 1, 1 << 63, math.MaxUint64 - 1, math.MaxUint64}
	sizes   = []int{0, 1, 15, 16, 17, 31, 32, 33, 127, 128, 129, 255, 256, 257, 4096, maxSeal - 1, maxSeal}
	tooLong = []int{maxSeal + 1, maxSeal + 2, maxSeal + 128, 2 * maxSeal, 1 << 16, 1<<20 + 1}
)

// masters are some masters: any text is one.
func masters() []string {
	return []string{"", "m", "master", "\x00", all(), "\xff\xfe\x80", "\xed\xa0\x80", some(32, 1), some(63, 2), some(64, 3), some(65, 4), some(1000, 5), strings.Repeat("\xff", 64), "ring", "master\x01"}
}

// abouts are some texts that a wrapped one may be about.
func abouts() []string {
	return []string{"", "a", "about", "\x00", "\x00\x00", "\xff\xfe\x80", "\xc3", all(), some(127, 6), some(128, 7), some(maxSeal+1, 8)}
}
