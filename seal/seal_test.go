package seal_test

import (
	caes "crypto/aes"
	"crypto/cipher"
	"crypto/hmac"
	"crypto/sha256"
	"encoding/binary"
	"encoding/hex"
	"math"
	"math/rand"
	"strings"
	"testing"

	"twinlock/api"
	"twinlock/seal"
)

// tagSize is how many bytes a tag has.
const tagSize = 32

// call is what Close is asked.
type call struct {
	k           api.Key
	key         int
	boot        uint32
	n           uint64
	about, text string
}

// close asks Close.
func (c call) close() (api.Envelope, api.Errno) {
	return seal.Close(c.k, c.key, c.boot, c.n, c.about, c.text)
}

// reading is a reading of the chapter's words; what is set in it is read wrongly.
type reading struct {
	oneKey, swapped, noDerive              bool
	lowFirst, nFirst, noBoot, noN          bool
	tagsText, noKey, noAbout, bare, behind bool
	untaggedBoot, untaggedN, noNumbers     bool
}

// sum is a text's tag under a key, as others tell it.
func sum(key, text string) (h api.Hash) {
	x := hmac.New(sha256.New, []byte(key))
	x.Write([]byte(text))
	return api.Hash(x.Sum(nil))
}

// own is a key's own by a label.
func (r reading) own(k api.Key, label string) string {
	if r.noDerive {
		return string(k[:])
	}
	if r.oneKey {
		label = "enc"
	} else if r.swapped {
		label = map[string]string{"enc": "mac", "mac": "enc"}[label]
	}
	h := sum(string(k[:]), label)
	return string(h[:])
}

// stream is a text's stream, as others tell it.
func (r reading) stream(k api.Key, boot uint32, n uint64, text string) string {
	if r.noBoot {
		boot = 0
	}
	if r.noN {
		n = 0
	}
	var first []byte
	switch {
	case r.lowFirst:
		first = binary.LittleEndian.AppendUint32(nil, boot)
		first = binary.LittleEndian.AppendUint64(first, n)
	case r.nFirst:
		first = binary.BigEndian.AppendUint64(nil, n)
		first = binary.BigEndian.AppendUint32(first, boot)
	default:
		first = binary.BigEndian.AppendUint32(nil, boot)
		first = binary.BigEndian.AppendUint64(first, n)
	}
	c, err := caes.NewCipher([]byte(r.own(k, "enc")))
	if err != nil {
		panic(err)
	}
	b := []byte(text)
	cipher.NewCTR(c, append(first, 0, 0, 0, 0)).XORKeyStream(b, b)
	return string(b)
}

// number is a number's bytes.
func number(n uint64) string { return string(binary.AppendUvarint(nil, n)) }

// textOf is a text's bytes.
func textOf(s string) string { return number(uint64(len(s))) + s }

// numbersOf are the bytes of an envelope's numbers.
func numbersOf(x api.Envelope) string {
	return number(uint64(x.Key)) + number(uint64(x.Boot)) + number(x.N)
}

// tag is the tag of an envelope's other fields.
func (r reading) tag(k api.Key, x api.Envelope, about string) api.Hash {
	if r.noKey {
		x.Key = 0
	}
	if r.untaggedBoot {
		x.Boot = 0
	}
	if r.untaggedN {
		x.N = 0
	}
	if r.noAbout {
		about = ""
	}
	head, mid, tail := numbersOf(x), textOf(about), textOf(x.Data)
	if r.noNumbers {
		head = ""
	}
	if r.bare {
		mid, tail = about, x.Data
	}
	if r.behind {
		mid, tail = tail, mid
	}
	return sum(r.own(k, "mac"), head+mid+tail)
}

// sealed is the envelope that the chapter tells.
func (r reading) sealed(c call) api.Envelope {
	x := api.Envelope{Key: c.key, Boot: c.boot, N: c.n, Data: c.text}
	if !r.tagsText {
		x.Data = r.stream(c.k, c.boot, c.n, c.text)
	}
	x.Tag = r.tag(c.k, x, c.about)
	x.Data = r.stream(c.k, c.boot, c.n, c.text)
	return x
}

// tagged is an envelope with the tag that its other fields have.
func tagged(k api.Key, x api.Envelope, about string) api.Envelope {
	x.Tag = reading{}.tag(k, x, about)
	return x
}

// bytesOf are an envelope's bytes as the chapter tells them.
func bytesOf(x api.Envelope) string { return numbersOf(x) + textOf(x.Data) + string(x.Tag[:]) }

// source is what readOf has still to read, and its first fault.
type source struct {
	rest string
	e    api.Errno
}

// fails keeps the first fault.
func (s *source) fails(e api.Errno) {
	if s.e == api.OK {
		s.e = e
	}
}

// number reads a number of at most most.
func (s *source) number(most uint64) uint64 {
	end := 0
	for end < len(s.rest) && end < 9 && s.rest[end] >= 128 {
		end++
	}
	if end == len(s.rest) {
		s.fails(api.ErrShort)
		return 0
	}
	n, size := binary.Uvarint([]byte(s.rest))
	if size != end+1 || number(n) != s.rest[:size] || n > most {
		s.fails(api.ErrForm)
		return 0
	}
	s.rest = s.rest[size:]
	return n
}

// bytes reads so many bytes.
func (s *source) bytes(n int) string {
	if n > len(s.rest) {
		s.fails(api.ErrShort)
		return ""
	}
	b := s.rest[:n]
	s.rest = s.rest[n:]
	return b
}

// readOf is what Read tells, as the chapter does.
func readOf(b string) (x api.Envelope, e api.Errno) {
	s := &source{rest: b}
	for i, read := range []func(){
		func() { x.Key = int(s.number(1 << 20)) },
		func() { x.Boot = uint32(s.number(1<<32 - 1)) },
		func() { x.N = s.number(math.MaxUint64) },
		func() { x.Data = s.bytes(int(s.number(8192))) },
		func() { copy(x.Tag[:], s.bytes(tagSize)) },
	} {
		if read(); s.e != api.OK {
			return api.Envelope{}, s.e
		}
		if i == 4 && s.rest != "" {
			return api.Envelope{}, api.ErrForm
		}
	}
	return x, api.OK
}

// some is a text of n bytes, the same one for the same n and seed.
func some(n int, seed int64) string {
	b := make([]byte, n)
	rand.New(rand.NewSource(seed)).Read(b)
	return string(b)
}

// keyOf is a key of such bytes, and noughts behind them.
func keyOf(s string) (k api.Key) {
	copy(k[:], s)
	return k
}

// all is a text of all bytes.
func all() string {
	b := make([]byte, 256)
	for i := range b {
		b[i] = byte(i)
	}
	return string(b)
}

// The edges of a key's number, of Boot, of N, and lengths of texts about a block's end, and where a length takes another byte.
var (
	numbers = []int{0, 1, 2, 127, 128, 16383, 16384, 1<<20 - 1, 1 << 20}
	beyond  = []int{-1, -2, math.MinInt, math.MinInt + 1<<20, -1 << 32, 1<<20 + 1, 1<<20 + 2, 1 << 21, 1 << 31, 1 << 32, 1<<32 + 1, math.MaxInt}
	boots   = []uint32{0, 1, 127, 128, 255, 256, 0x01020304, 1 << 31, math.MaxUint32 - 1, math.MaxUint32}
	counts  = []uint64{0, 1, 127, 128, 255, 256, math.MaxUint32, 1 << 32, 0x0102030405060708, 1<<63 - 1, 1 << 63, math.MaxUint64 - 1, math.MaxUint64}
	sizes   = []int{0, 1, 15, 16, 17, 31, 32, 33, 127, 128, 129, 255, 256, 257, 4096, 8190, 8191, 8192}
	tooLong = []int{8193, 8194, 8192 + 128, 2 * 8192, 1 << 16, 1<<20 + 1}
)

// usual is some usual calls.
func usual() []call {
	l := []call{
		{},
		{keyOf("k"), 1, 2, 3, "a", "hello"},
		{keyOf(some(32, 1)), 1 << 20, math.MaxUint32, math.MaxUint64, "", some(40, 2)},
		{keyOf(strings.Repeat("\xff", 32)), 300, 7, 0, some(300, 3), ""},
		{keyOf(all()), 0, 0x01020304, 0x05060708090a0b0c, all(), all()},
	}
	for seed := range int64(4) {
		r := rand.New(rand.NewSource(seed))
		l = append(l, call{keyOf(some(32, r.Int63())), r.Intn(1<<20 + 1), r.Uint32() >> r.Intn(32), r.Uint64() >> r.Intn(64), some(r.Intn(90), r.Int63()), some(1+r.Intn(90), r.Int63())})
	}
	return l
}

// holds asks that a call is answered by the chapter's envelope, and tells it.
func holds(t *testing.T, c call) api.Envelope {
	t.Helper()
	want := reading{}.sealed(c)
	x, e := c.close()
	if e != api.OK || x != want {
		t.Fatalf("Close of key %d, boot %d, n %d, about %d bytes, a text of %d: %d\n%x, not\n%x", c.key, c.boot, c.n, len(c.about), len(c.text), e, x, want)
	}
	return x
}

// refuses asks that a call is answered by an error, and by nothing else.
func refuses(t *testing.T, c call, want api.Errno) {
	t.Helper()
	if x, e := c.close(); e != want || x != (api.Envelope{}) {
		t.Fatalf("Close of key %d, a text of %d bytes: %d and %v, not %d", c.key, len(c.text), e, x, want)
	}
}

// opens asks what an envelope is opened to.
func opens(t *testing.T, k api.Key, x api.Envelope, about, want string) {
	t.Helper()
	if s, e := seal.Open(k, x, about); e != api.OK || s != want {
		t.Fatalf("Open of %x about %q: %d, %q, not %q", x, about, e, s, want)
	}
}

// shut asks that an envelope isn't opened, and why.
func shut(t *testing.T, k api.Key, x api.Envelope, about string, want api.Errno) {
	t.Helper()
	if s, e := seal.Open(k, x, about); e != want || s != "" {
		t.Fatalf("Open of %x about %q: %d and %q, not %d", x, about, e, s, want)
	}
}

// hasBytes asks an envelope's bytes, and tells them.
func hasBytes(t *testing.T, x api.Envelope) string {
	t.Helper()
	b, e := seal.Bytes(x)
	if e != api.OK || b != bytesOf(x) {
		t.Fatalf("Bytes of %x: %d, %x", x, e, b)
	}
	return b
}

// reads asks what bytes are read to.
func reads(t *testing.T, b string, want api.Envelope) {
	t.Helper()
	if x, e := seal.Read(b); e != api.OK || x != want {
		t.Fatalf("Read of %x: %d, %x, not %x", b, e, x, want)
	}
}

// unread asks that bytes aren't read, and why.
func unread(t *testing.T, b string, want api.Errno) {
	t.Helper()
	if x, e := seal.Read(b); e != want || x != (api.Envelope{}) {
		t.Fatalf("Read of %x: %d and %x, not %d", b, e, x, want)
	}
}

// asTold asks that Read tells of bytes what the chapter does.
func asTold(t *testing.T, b string) {
	t.Helper()
	if x, e := readOf(b); e == api.OK {
		reads(t, b, x)
		if bytesOf(x) != b {
			t.Fatalf("%x and its bytes", b)
		}
	} else {
		unread(t, b, e)
	}
}

// What another program (OpenSSL) reckons.
func TestP51Examples(t *testing.T) {
	k := keyOf(all())
	for _, x := range []struct {
		call call
		want string
	}{
		{call{k, 1, 2, 3, "a", "hello"}, "0102030508bb9f7fee48746038825f47fc4705abc505c26c78db5f4bdf27af2048a2005a56e70f262a"},
		{call{k, 0, 0, 0, "", ""}, "00000000d7e7adf7b459a8469507119ba82c6728f4d0323e16afacb3fef5d40c245f5b74"},
		{call{k, 0, 0x01020304, 0x05060708090a0b0c, "about", "sixteen bytes, and one more"}, "00848688088c96a8c880e18183051be840edda189adacbf3e4d767946574d3efc5d31980cb57063317ff5e7c9af048d8ba386dfe398b5aa0b473db1bd22fb9e7efe7a79e908ab5c6c63e"},
		{call{k, 1 << 20, math.MaxUint32, math.MaxUint64, "", "kept under two keys, kept under two keys"}, "808040ffffffff0fffffffffffffffffff0128d1464b163fb0b697f02841b7e0e5e22b2c8b4a10717d3ddb614f9755688edab978417ac0db042fcb29aa18e5bb36d29519f5b29baa8ff35c000adfd46a559c0136aae9b62de4eb18"},
	} {
		if b := hasBytes(t, holds(t, x.call)); hex.EncodeToString([]byte(b)) != x.want {
			t.Errorf("%v: %x, not %s", x.call, b, x.want)
		}
	}
}

func TestP51Usual(t *testing.T) {
	for _, c := range usual() {
		x := holds(t, c)
		if x.Key != c.key || x.Boot != c.boot || x.N != c.n || len(x.Data) != len(c.text) {
			t.Errorf("%v: %v", c, x)
		}
	}
}

func TestP51Keys(t *testing.T) {
	for _, c := range usual() {
		for _, c.key = range numbers {
			holds(t, c)
		}
		for _, c.key = range beyond {
			refuses(t, c, api.ErrArg)
		}
	}
}

func TestP51Sizes(t *testing.T) {
	c := call{k: keyOf("k"), key: 1 << 20, boot: 9, n: 10, about: "a"}
	for _, n := range sizes {
		for _, c.text = range []string{some(n, 4), strings.Repeat("\x00", n), strings.Repeat("\xff", n)} {
			if x := holds(t, c); len(x.Data) != n {
				t.Errorf("%d bytes told for %d", len(x.Data), n)
			}
		}
	}
	for _, n := range tooLong {
		c.text = some(n, 5)
		refuses(t, c, api.ErrLong)
	}
}

// Where both hold, the key's number is told first.
func TestP51Order(t *testing.T) {
	for _, key := range beyond {
		for _, n := range tooLong {
			refuses(t, call{key: key, text: some(n, 6)}, api.ErrArg)
		}
	}
}

func TestP51Nonces(t *testing.T) {
	c := call{k: keyOf("k"), key: 5, about: "about", text: some(40, 7)}
	seen := map[api.Envelope]bool{}
	data := map[string]bool{}
	for _, c.boot = range boots {
		for _, c.n = range counts {
			x := holds(t, c)
			seen[x], data[x.Data] = true, true
		}
	}
	if want := len(boots) * len(counts); len(seen) != want || len(data) != want {
		t.Errorf("%d envelopes, %d Data, not %d", len(seen), len(data), want)
	}
}

// Each bit of the nonce's numbers stands at its place.
func TestP51NonceBits(t *testing.T) {
	for i := range 32 {
		holds(t, call{boot: 1 << i, text: some(20, 8)})
	}
	for i := range 64 {
		holds(t, call{n: 1 << i, text: some(20, 9)})
	}
}

func TestP51KeyBits(t *testing.T) {
	for i := range 256 {
		var k api.Key
		k[i/8] = 1 << (i % 8)
		holds(t, call{k: k, text: some(20, 10)})
	}
}

// About may be any text; its length is tagged, too.
func TestP51About(t *testing.T) {
	c := call{k: keyOf("k"), key: 1, boot: 2, n: 3, text: "text"}
	first := holds(t, c)
	for _, n := range append(tooLong, sizes...) {
		c.about = some(n, 11)
		x := holds(t, c)
		if x.Data != first.Data || n > 0 && x.Tag == first.Tag {
			t.Errorf("about %d bytes", n)
		}
	}
	for _, c.about = range []string{"", "\x00", "\x00\x00", "\xff\xfe\x80", "\xc3", "\xed\xa0\x80", all()} {
		holds(t, c)
	}
}

// Where about ends and the text begins counts.
func TestP51Apart(t *testing.T) {
	s := some(60, 12)
	seen := map[api.Hash]bool{}
	for cut := range len(s) + 1 {
		x := holds(t, call{k: keyOf("k"), about: s[:cut], text: s[cut:]})
		seen[x.Tag] = true
	}
	if len(seen) != len(s)+1 {
		t.Errorf("%d tags, not %d", len(seen), len(s)+1)
	}
}

// Each of the words counts: who reads it otherwise tells another envelope.
func TestP51Words(t *testing.T) {
	for name, r := range map[string]reading{
		"the key itself":          {noDerive: true},
		"one key for both":        {oneKey: true},
		"the labels swapped":      {swapped: true},
		"the lowest byte first":   {lowFirst: true},
		"N ahead of Boot":         {nFirst: true},
		"a nonce without Boot":    {noBoot: true},
		"a nonce without N":       {noN: true},
		"a tag of the text":       {tagsText: true},
		"Key not tagged":          {noKey: true},
		"Boot not tagged":         {untaggedBoot: true},
		"N not tagged":            {untaggedN: true},
		"numbers not tagged":      {noNumbers: true},
		"about not tagged":        {noAbout: true},
		"texts without lengths":   {bare: true},
		"about tagged behind all": {behind: true},
	} {
		for seed := range int64(20) {
			c := call{keyOf(some(32, seed)), 1 + int(seed), 7 + uint32(seed), 9 + uint64(seed), "about", "a text"}
			if holds(t, c) == r.sealed(c) {
				t.Errorf("%s: %v", name, c)
			}
		}
	}
}

func TestP51Chance(t *testing.T) {
	for seed := range int64(1000) {
		r := rand.New(rand.NewSource(seed))
		holds(t, call{keyOf(some(32, r.Int63())), r.Intn(1<<20 + 1), r.Uint32() >> r.Intn(32), r.Uint64() >> r.Intn(64), some(r.Intn(1+r.Intn(300)), r.Int63()), some(r.Intn(1+r.Intn(600)), r.Int63())})
	}
}

// Calls know nothing of one another.
func TestP51Again(t *testing.T) {
	for _, c := range usual() {
		first := holds(t, c)
		for _, other := range usual() {
			holds(t, other)
			shut(t, other.k, api.Envelope{}, "other", api.ErrMac)
		}
		refuses(t, call{key: -1}, api.ErrArg)
		if holds(t, c) != first {
			t.Errorf("%v, asked again", c)
		}
	}
}

func TestP52Usual(t *testing.T) {
	for _, c := range usual() {
		opens(t, c.k, reading{}.sealed(c), c.about, c.text)
	}
}

func TestP52Edges(t *testing.T) {
	c := call{k: keyOf("k"), about: "a", text: some(40, 13)}
	for _, c.key = range numbers {
		for _, c.boot = range boots {
			for _, c.n = range counts {
				opens(t, c.k, reading{}.sealed(c), c.about, c.text)
			}
		}
	}
	for _, n := range sizes {
		c.text = some(n, 14)
		opens(t, c.k, reading{}.sealed(c), c.about, c.text)
	}
}

// What isn't right is refused, though its tag is the one that it has; and ahead of a tag that isn't.
func TestP52NotRight(t *testing.T) {
	for _, c := range usual() {
		for _, x := range notRight() {
			shut(t, c.k, tagged(c.k, x, c.about), c.about, api.ErrArg)
			shut(t, c.k, x, c.about, api.ErrArg)
		}
	}
}

// notRight is envelopes that are not right, by one field or both.
func notRight() (l []api.Envelope) {
	for _, key := range beyond {
		l = append(l, api.Envelope{Key: key}, api.Envelope{Key: key, Boot: 1, N: 2, Data: some(8192, 15), Tag: api.Hash{3}})
		l = append(l, api.Envelope{Key: key, Data: some(8193, 16)})
	}
	for _, n := range tooLong {
		for _, key := range []int{0, 1, 1 << 20} {
			l = append(l, api.Envelope{Key: key, Data: some(n, 17)})
		}
	}
	return l
}

// A tag that differs in one bit, or by whatever in one byte.
func TestP52Tags(t *testing.T) {
	for _, c := range usual() {
		x := holds(t, c)
		for i := range tagSize {
			for d := 1; d < 256; d += 1 + d%3 {
				y := x
				y.Tag[i] ^= byte(d)
				shut(t, c.k, y, c.about, api.ErrMac)
			}
			for bit := range 8 {
				y := x
				y.Tag[i] ^= 1 << bit
				shut(t, c.k, y, c.about, api.ErrMac)
			}
			y := x
			y.Tag[i], y.Tag[(i+1)%tagSize] = y.Tag[(i+1)%tagSize], y.Tag[i]
			if y != x {
				shut(t, c.k, y, c.about, api.ErrMac)
			}
		}
		y := x
		y.Tag = api.Hash{}
		shut(t, c.k, y, c.about, api.ErrMac)
		opens(t, c.k, x, c.about, c.text)
	}
}

// The tag of another key's number, Boot, N, Data.
func TestP52Numbers(t *testing.T) {
	for _, c := range usual() {
		x := holds(t, c)
		for i := range 64 {
			boot, n := x, x
			boot.Boot ^= 1 << (i % 32)
			n.N ^= 1 << i
			shut(t, c.k, boot, c.about, api.ErrMac)
			shut(t, c.k, n, c.about, api.ErrMac)
			key := x
			key.Key ^= 1 << i
			want := api.ErrMac
			if key.Key < 0 || key.Key > 1<<20 {
				want = api.ErrArg
			}
			shut(t, c.k, key, c.about, want)
		}
		for _, key := range numbers {
			if y := x; key != x.Key {
				y.Key = key
				shut(t, c.k, y, c.about, api.ErrMac)
			}
		}
	}
}

// turned is a text with one bit turned.
func turned(s string, i int) string {
	b := []byte(s)
	b[i/8] ^= 1 << (i % 8)
	return string(b)
}

func TestP52Data(t *testing.T) {
	for _, c := range usual() {
		x := holds(t, c)
		y := x
		for i := range 8 * len(x.Data) {
			y.Data = turned(x.Data, i)
			shut(t, c.k, y, c.about, api.ErrMac)
		}
		for cut := range len(x.Data) {
			y.Data = x.Data[:cut]
			shut(t, c.k, y, c.about, api.ErrMac)
			y.Data = x.Data[cut+1:]
			shut(t, c.k, y, c.about, api.ErrMac)
		}
		for _, more := range []string{"\x00", "a", all()} {
			y.Data = x.Data + more
			shut(t, c.k, y, c.about, api.ErrMac)
			y.Data = more + x.Data
			shut(t, c.k, y, c.about, api.ErrMac)
		}
	}
}

func TestP52About(t *testing.T) {
	for _, c := range usual() {
		x := holds(t, c)
		for i := range 8 * len(c.about) {
			shut(t, c.k, x, turned(c.about, i), api.ErrMac)
		}
		for cut := range len(c.about) {
			shut(t, c.k, x, c.about[:cut], api.ErrMac)
			shut(t, c.k, x, c.about[cut+1:], api.ErrMac)
		}
		for _, more := range []string{"\x00", "a", all()} {
			shut(t, c.k, x, c.about+more, api.ErrMac)
			shut(t, c.k, x, more+c.about, api.ErrMac)
		}
	}
}

// Bytes that go from about to Data, or back, make another tag.
func TestP52Apart(t *testing.T) {
	for _, c := range usual() {
		x := holds(t, c)
		whole := c.about + x.Data
		for cut := range len(whole) + 1 {
			y := x
			y.Data = whole[cut:]
			if cut == len(c.about) {
				opens(t, c.k, y, whole[:cut], c.text)
			} else {
				shut(t, c.k, y, whole[:cut], api.ErrMac)
			}
		}
	}
}

func TestP52OtherKeys(t *testing.T) {
	for _, c := range usual() {
		x := holds(t, c)
		for i := range 256 {
			k := c.k
			k[i/8] ^= 1 << (i % 8)
			shut(t, k, x, c.about, api.ErrMac)
		}
	}
}

// Whatever the Data are: what has its tag is opened to their stream.
func TestP52Tagged(t *testing.T) {
	for _, c := range usual() {
		for _, n := range sizes {
			x := tagged(c.k, api.Envelope{Key: c.key, Boot: c.boot, N: c.n, Data: some(n, 18)}, c.about)
			opens(t, c.k, x, c.about, reading{}.stream(c.k, c.boot, c.n, x.Data))
		}
	}
}

// envelopes is envelopes that are right, tagged so or not.
func envelopes() (l []api.Envelope) {
	for i, key := range numbers {
		for j, boot := range boots {
			for m, n := range counts {
				var h api.Hash
				copy(h[:], some(tagSize, int64(i*j*m)))
				l = append(l, api.Envelope{Key: key, Boot: boot, N: n, Data: some((i+j+m)%7, 19), Tag: h})
			}
		}
	}
	for _, n := range sizes {
		l = append(l, api.Envelope{Key: 3, Data: some(n, 20)}, api.Envelope{Data: strings.Repeat("\xff", n), Tag: api.Hash{31: 1}})
	}
	for _, c := range usual() {
		l = append(l, reading{}.sealed(c))
	}
	return l
}

func TestP53Bytes(t *testing.T) {
	for _, x := range envelopes() {
		hasBytes(t, x)
	}
}

func TestP53BytesNotRight(t *testing.T) {
	for _, x := range notRight() {
		if b, e := seal.Bytes(x); e != api.ErrArg || b != "" {
			t.Errorf("key %d, %d bytes: %d and %x", x.Key, len(x.Data), e, b)
		}
	}
}

func TestP53Read(t *testing.T) {
	for _, x := range envelopes() {
		reads(t, bytesOf(x), x)
	}
}

// Bytes that are cut off anywhere, and with some behind.
func TestP53Ends(t *testing.T) {
	for _, c := range usual() {
		b := bytesOf(reading{}.sealed(c))
		for cut := range len(b) {
			unread(t, b[:cut], api.ErrShort)
		}
		for _, more := range []string{"\x00", "a", "\x80", "\xff", all(), b} {
			unread(t, b+more, api.ErrForm)
		}
	}
	long := bytesOf(api.Envelope{Data: some(8192, 21)})
	for cut := 0; cut < len(long); cut += 1 + cut%31 {
		unread(t, long[:cut], api.ErrShort)
	}
	unread(t, long+"\x00", api.ErrForm)
}

// Just the tag's bytes are too few: 0 to 31 of 32.
func TestP53TagEnds(t *testing.T) {
	for n := range tagSize {
		unread(t, "\x00\x00\x00\x00"+strings.Repeat("t", n), api.ErrShort)
		unread(t, "\x01\x02\x03\x02ab"+strings.Repeat("t", n), api.ErrShort)
	}
	reads(t, "\x00\x00\x00\x00"+strings.Repeat("\x00", tagSize), api.Envelope{})
	unread(t, "\x00\x00\x00\x00"+strings.Repeat("\x00", tagSize+1), api.ErrForm)
}

// fields are the bytes of a right envelope's four fields ahead of the tag.
func fields() [4]string { return [4]string{"\x05", "\x06", "\x07", "\x03abc"} }

// with is the bytes of an envelope of which one field's are such.
func with(i int, field string) string {
	f := fields()
	f[i] = field
	return strings.Join(f[:], "") + strings.Repeat("t", tagSize)
}

// A number with noughts behind it, of more bytes than it needs, or beyond all numbers.
func TestP53LongNumbers(t *testing.T) {
	reads(t, with(0, "\x05"), api.Envelope{Key: 5, Boot: 6, N: 7, Data: "abc", Tag: api.Hash([]byte(strings.Repeat("t", tagSize)))})
	for i, f := range fields() {
		for noughts := range 9 {
			more := string([]byte{f[0] | 128}) + strings.Repeat("\x80", noughts) + "\x00"
			unread(t, with(i, more+f[1:]), api.ErrForm)
		}
		unread(t, with(i, "\x80\x00"+f[1:]), api.ErrForm)
		unread(t, with(i, strings.Repeat("\xff", 9)+"\x02"), api.ErrForm)
		unread(t, with(i, strings.Repeat("\xff", 9)+"\x7f"), api.ErrForm)
		unread(t, with(i, strings.Repeat("\xff", 10)+"\x01"), api.ErrForm)
		unread(t, with(i, strings.Repeat("\x80", 20)), api.ErrForm)
	}
}

// Each field at its greatest is read; one more is not.
func TestP53Most(t *testing.T) {
	for _, n := range []uint64{1<<20 + 1, 1 << 21, 1 << 32, 1<<32 + 5, 1 << 63, math.MaxUint64} {
		unread(t, with(0, number(n)), api.ErrForm)
	}
	for _, n := range []uint64{1 << 32, 1<<32 + 1, 1<<32 + 6, 1 << 33, 1 << 63, math.MaxUint64} {
		unread(t, with(1, number(n)), api.ErrForm)
	}
	for _, n := range tooLong {
		unread(t, with(3, textOf(some(n, 22))), api.ErrForm)
	}
	for i, n := range []uint64{1 << 20, 1<<32 - 1, math.MaxUint64} {
		asTold(t, with(i, number(n)))
		if _, e := seal.Read(with(i, number(n))); e != api.OK {
			t.Errorf("field %d: %d is not read", i, n)
		}
	}
	if x, e := seal.Read(with(3, textOf(some(8192, 23)))); e != api.OK || len(x.Data) != 8192 {
		t.Errorf("Data of 8192 bytes: %d", e)
	}
}

// Where more than one holds, the first field's is told, and nothing behind it counts.
func TestP53Order(t *testing.T) {
	good := fields()
	bad := [4]string{number(1<<20 + 1), number(1 << 32), "\x80\x00", number(8193)}
	for i, f := range bad {
		head := strings.Join(good[:i], "")
		for _, tail := range []string{"", "\x80", "\x00\x00\x00\x00", strings.Repeat("\x01", 40), strings.Repeat("\xff", 20), bytesOf(api.Envelope{})} {
			unread(t, head+f+tail, api.ErrForm)
		}
		unread(t, head+"\x80", api.ErrShort)
		unread(t, head, api.ErrShort)
		unread(t, head+"\xff\xff", api.ErrShort)
	}
	// Data that end too early, of a length that is too great, or that is not.
	unread(t, "\x01\x02\x03"+number(8193)+"abc", api.ErrForm)
	unread(t, "\x01\x02\x03"+number(8192)+"abc", api.ErrShort)
	unread(t, "\x01\x02\x03"+number(math.MaxUint64)+"abc", api.ErrForm)
}

// Bytes of few kinds, in all orders.
func TestP53Short(t *testing.T) {
	kinds := []byte{0, 1, 2, 127, 128, 255}
	l := []string{""}
	for range 5 {
		for _, s := range l {
			asTold(t, s)
			asTold(t, s+strings.Repeat("t", tagSize))
		}
		var longer []string
		for _, s := range l {
			for _, b := range kinds {
				longer = append(longer, s+string([]byte{b}))
			}
		}
		l = longer
	}
}

// Bytes that were changed by chance.
func TestP53Chance(t *testing.T) {
	l := envelopes()
	for seed := range int64(20000) {
		r := rand.New(rand.NewSource(seed))
		b := []byte(bytesOf(l[r.Intn(len(l))]))
		for range 1 + r.Intn(3) {
			at := r.Intn(min(len(b), 60))
			switch r.Intn(4) {
			case 0:
				b[at] = byte(r.Intn(256))
			case 1:
				b[at] ^= 128
			case 2:
				b = append(b[:at], b[at+1:]...)
			case 3:
				b = append(b[:at], append([]byte{byte(r.Intn(256))}, b[at:]...)...)
			}
		}
		asTold(t, string(b))
	}
}

// Bytes of no envelope at all.
func TestP53OddBytes(t *testing.T) {
	for _, b := range []string{"", "\xff", all(), all() + all(), "hello", "\xc3", "\xed\xa0\x80", strings.Repeat("\xff", 1<<16), strings.Repeat("\x00", 1<<16)} {
		asTold(t, b)
	}
	for seed := range int64(2000) {
		asTold(t, some(int(seed%80), seed))
	}
}

// What was closed goes through its bytes, and is opened.
func TestP54Back(t *testing.T) {
	back := func(c call) {
		x, e := c.close()
		if e != api.OK {
			t.Fatalf("Close: %d", e)
		}
		b, e := seal.Bytes(x)
		if e != api.OK {
			t.Fatalf("Bytes: %d", e)
		}
		reads(t, b, x)
		opens(t, c.k, x, c.about, c.text)
		shut(t, c.k, x, c.about+"b", api.ErrMac)
	}
	for _, c := range usual() {
		for _, c.key = range numbers {
			back(c)
		}
		for _, c.boot = range boots {
			for _, c.n = range counts {
				back(c)
			}
		}
		for _, n := range sizes {
			c.text = some(n, 24)
			back(c)
			c.text, c.about = all(), c.text
			back(c)
		}
	}
}

func TestP54Examples(t *testing.T) {
	k := keyOf("k")
	x := holds(t, call{k, 1, 2, 3, "a", "hello"})
	opens(t, k, x, "a", "hello")
	shut(t, k, x, "b", api.ErrMac)
	y := x
	y.N = 4
	shut(t, k, y, "a", api.ErrMac)
	b := hasBytes(t, x)
	reads(t, b, x)
	unread(t, b[:len(b)-1], api.ErrShort)
	unread(t, b+"\x00", api.ErrForm)
}

// What Read reads is right, and has just these bytes.
func TestP54Read(t *testing.T) {
	read := 0
	for seed := range int64(5000) {
		r := rand.New(rand.NewSource(seed))
		b := number(uint64(r.Intn(1<<20+9))>>r.Intn(20)) + number(r.Uint64()>>(20+r.Intn(44))) + number(r.Uint64()>>r.Intn(64)) + textOf(some(r.Intn(9), seed)) + some(tagSize, -seed)
		x, e := seal.Read(b)
		if e != api.OK {
			continue
		}
		read++
		if x.Key < 0 || x.Key > 1<<20 || len(x.Data) > 8192 {
			t.Fatalf("%x is not right", x)
		}
		if again, e := seal.Bytes(x); e != api.OK || again != b {
			t.Fatalf("%x: %d, %x", b, e, again)
		}
	}
	if read < 1000 {
		t.Errorf("just %d were read", read)
	}
}

// Unlike envelopes have unlike bytes, and what has bytes is read from them.
func TestP54Bytes(t *testing.T) {
	of := map[string]api.Envelope{}
	for _, x := range envelopes() {
		b := hasBytes(t, x)
		if was, is := of[b]; is && was != x {
			t.Fatalf("%x and %x have the same bytes", was, x)
		}
		of[b] = x
		reads(t, b, x)
	}
}

// What is opened was tagged so: of tags by chance and of wrong readings, none is opened but the one that the chapter reckons.
func TestP54Tagged(t *testing.T) {
	for seed := range int64(300) {
		r := rand.New(rand.NewSource(seed))
		c := call{keyOf(some(32, r.Int63())), r.Intn(1<<20 + 1), 1 + r.Uint32()>>1, 1 + r.Uint64()>>1, some(1+r.Intn(30), r.Int63()), some(1+r.Intn(90), r.Int63())}
		x := reading{}.sealed(c)
		want := x.Tag
		tags := []api.Hash{want, {}, api.Hash([]byte(some(tagSize, seed)))}
		for _, wrong := range []reading{{noDerive: true}, {oneKey: true}, {swapped: true}, {tagsText: true}, {noKey: true}, {untaggedBoot: true}, {untaggedN: true}, {noNumbers: true}, {noAbout: true}, {bare: true}, {behind: true}} {
			tags = append(tags, wrong.sealed(c).Tag)
		}
		for _, x.Tag = range tags {
			s, e := seal.Open(c.k, x, c.about)
			if (e == api.OK) != (x.Tag == want) {
				t.Fatalf("%v: the tag %x is answered %d", c, x.Tag, e)
			}
			if e == api.OK && s != c.text || e != api.OK && (e != api.ErrMac || s != "") {
				t.Fatalf("%v: %d, %q", c, e, s)
			}
		}
	}
}
