package ring_test

import (
	"crypto/sha256"
	"encoding/hex"
	"math"
	"math/rand"
	"strings"
	"testing"

	"twinlock/api"
	"twinlock/ring"
)

// nones are rings that are none: nil, and such as New did not make.
func nones() map[string]*ring.Ring {
	return map[string]*ring.Ring{"nil": nil, "not made": {}, "new": new(ring.Ring)}
}

// rotatedTo is a ring that came to its current key by so many turns.
func rotatedTo(t *testing.T, master string, current, turns int, boot uint32) *asked {
	t.Helper()
	a := start(t, master, current-turns, boot)
	for range turns {
		a.rotate(t)
	}
	return a
}

func TestP61New(t *testing.T) {
	for _, master := range masters() {
		for _, current := range numbers {
			for _, boot := range boots {
				start(t, master, current, boot)
			}
		}
	}
}

func TestP61Beyond(t *testing.T) {
	for _, master := range masters() {
		for _, current := range beyond {
			for _, boot := range boots {
				if r, e := ring.New(master, current, boot); r != nil || e != api.ErrArg {
					t.Fatalf("New of current %d: %v, %d", current, r, e)
				}
			}
		}
	}
}

// A new ring has wrapped nothing, whatever others wrapped, and it seals with the key that it was told.
func TestP61Fresh(t *testing.T) {
	for _, current := range numbers {
		a := start(t, "master", current, 7)
		for range 3 {
			a.wrap(t, "a", "x")
		}
		b := start(t, "master", current, 7)
		b.wrap(t, "a", "x")
		a.stands(t)
	}
}

func TestP61Keys(t *testing.T) {
	for _, master := range masters() {
		for _, i := range append(numbers, beyond...) {
			if k := ring.Key(master, i); string(k[:]) != keyOf(master, i) {
				t.Errorf("Key of %x, %d: %x", master, i, k)
			}
		}
	}
}

// Each bit of a key's number stands at its place.
func TestP61KeyBits(t *testing.T) {
	seen := map[api.Key]bool{}
	for bit := range 64 {
		i := int(uint64(1) << bit)
		for _, i := range []int{i, -i, i - 1, ^i} {
			k := ring.Key("master", i)
			if string(k[:]) != keyOf("master", i) {
				t.Errorf("Key %d: %x", i, k)
			}
			seen[k] = true
		}
	}
	// -2^b for 0 to 63, 2^b for 0 to 62, 2^b - 1 for 0 and 2 to 63, -2^b - 1 for 1 to 62: each one once.
	if len(seen) != 64+63+63+62 {
		t.Errorf("%d keys", len(seen))
	}
}

// What another program (OpenSSL) reckons.
func TestP61KeyExamples(t *testing.T) {
	for _, x := range []struct {
		i    int
		want string
	}{
		{0, "d753a02d73c78070be0eca3e6b409d90a316c08f2c6900c0deee933168193803"},
		{1, "32e4affc929f906e4880f46aff8c4da866e0f8e28a82fe7c91b56106c859736f"},
		{maxRing, "e376cc236f35a44e88b90410c45c53717415d94d4463a5b9510f4031b8f39774"},
		{maxRing + 1, "e9d2ef33ddeb6770c9eb84befc25402d9688b545d3033bf572b5146961dbc4ae"},
		{0x0102030405060708, "c4adcd65f14171f5276e392c8c058213b85c592d45ef97075476c6b910397261"},
		{math.MaxInt, "63e15dcafdeea69498ffbb3741526d1cf9f7645718279be5e1dc7c417bfc9034"},
		{math.MinInt, "ff9043326f7c0f80e8814f13a7a8cd695be95f5b9d4ae8691cf781a3b278c5e7"},
		{-1, "39dc415644d1ad0fe817b4cefdd0b9075fd1315de178429689e76ab4487f98be"},
	} {
		if k := ring.Key("master", x.i); hex.EncodeToString(k[:]) != x.want {
			t.Errorf("Key %d: %x, not %s", x.i, k, x.want)
		}
	}
}

// Masters that make one block make the same keys: one of up to 64 bytes and it with noughts behind, a longer one and its hash.
func TestP61MastersAlike(t *testing.T) {
	for _, s := range []string{"", "m", some(20, 9), some(63, 10)} {
		for _, i := range []int{0, 5, -1} {
			if ring.Key(s, i) != ring.Key(s+"\x00", i) || ring.Key(s, i) != ring.Key(s+strings.Repeat("\x00", 64-len(s)), i) {
				t.Errorf("key %d of %x", i, s)
			}
			if ring.Key(s, i) == ring.Key(s+strings.Repeat("\x00", 65-len(s)), i) {
				t.Errorf("key %d of %x and 65 bytes", i, s)
			}
		}
	}
	for _, n := range []int{65, 100, 1000} {
		long := some(n, 27)
		h := sha256.Sum256([]byte(long))
		if ring.Key(long, 5) != ring.Key(string(h[:]), 5) {
			t.Errorf("a master of %d bytes, and its hash", n)
		}
	}
}

// Asked again, among others, a key is the same; rings' own doings are nothing to it.
func TestP61KeysAgain(t *testing.T) {
	first := ring.Key("m", 3)
	a := start(t, "m", 3, 0)
	b := start(t, "n", 3, 0)
	for range 5 {
		a.wrap(t, "", "x")
		b.wrap(t, "", "x")
		b.rotate(t)
		if ring.Key("n", 3) == first || ring.Key("m", 4) == first || ring.Key("m", 3) != first {
			t.Fatal("key 3 is another one")
		}
	}
}

func TestP62None(t *testing.T) {
	for name, r := range nones() {
		for range 3 {
			if i := r.Current(); i != 0 {
				t.Errorf("%s: Current is %d", name, i)
			}
			if e := r.Rotate(); e != api.ErrNil {
				t.Errorf("%s: Rotate is answered %d", name, e)
			}
			if boot, n := r.Count(); boot != 0 || n != 0 {
				t.Errorf("%s: Count is %d, %d", name, boot, n)
			}
			if b, e := r.Wrap("a", "x"); b != "" || e != api.ErrNil {
				t.Errorf("%s: Wrap is answered %d", name, e)
			}
		}
	}
}

func TestP62Rotate(t *testing.T) {
	for _, current := range numbers {
		a := start(t, "master", current, 5)
		for range 4 {
			a.rotate(t)
		}
	}
}

// All the way up, and not above; the last key seals on.
func TestP62AllTheWay(t *testing.T) {
	a := start(t, "master", 0, 5)
	first := a.wrap(t, "a", "x")
	for range maxRing {
		a.rotate(t)
	}
	if i := a.ring.Current(); i != maxRing {
		t.Fatalf("Current is %d", i)
	}
	for range 3 {
		if e := a.ring.Rotate(); e != api.ErrFull {
			t.Fatalf("Rotate of the last key is answered %d", e)
		}
		a.stands(t)
		a.opens(t, a.wrap(t, "a", "y"), "a", "y")
		a.opens(t, first, "a", "x")
	}
}

// Rings turn each for itself.
func TestP62Apart(t *testing.T) {
	a, b := start(t, "master", 3, 5), start(t, "master", 3, 5)
	a.rotate(t)
	b.stands(t)
	b.rotate(t)
	b.rotate(t)
	a.stands(t)
	if a.ring.Current() != 4 || b.ring.Current() != 5 {
		t.Errorf("%d, %d", a.ring.Current(), b.ring.Current())
	}
}

// Just what was wrapped is counted.
func TestP62Count(t *testing.T) {
	for _, boot := range boots {
		a, to := start(t, "master", 3, boot), start(t, "other", 1, boot/2+1)
		for want := range uint64(5) {
			if has, n := a.ring.Count(); has != boot || n != want {
				t.Fatalf("Count is %d, %d, not %d, %d", has, n, boot, want)
			}
			b := a.wrap(t, "a", "x")
			a.rotate(t)
			a.opens(t, b, "a", "x")
			a.shut(t, b, "b", api.ErrMac)
			a.shut(t, "", "a", api.ErrShort)
			a.rewrapped(t, b, "a", to, "c")
			a.kept(t, b, "b", to, "c", api.ErrMac)
			if s, e := a.ring.Wrap("a", some(maxSeal+1, 11)); s != "" || e != api.ErrLong {
				t.Fatalf("Wrap of a long text is answered %d", e)
			}
			ring.Key("master", int(want))
		}
		if has, n := to.ring.Count(); has != boot/2+1 || n != 5 {
			t.Errorf("Count of the other one is %d, %d", has, n)
		}
	}
}

// What another program (OpenSSL) reckons.
func TestP63Examples(t *testing.T) {
	a := start(t, "master", 0, 7)
	first := a.wrap(t, "a", "x")
	a.rotate(t)
	second := a.wrap(t, "a", "x")
	last := start(t, "master", maxRing, math.MaxUint32).wrap(t, "about", "a secret of some words")
	for _, x := range []struct{ b, want string }{
		{first, "00070001e4f590f2428336d877ca29626ea2bbc00756985985faf2fb017613cc0e09a288b7"},
		{second, "010701010c77b6b41e0b544a9f2b7937a3831e8ce92e2cd070177b17dab429f7b7ffd0634d"},
		{last, "808040ffffffff0f0016e27c031f79ec6a345948fabb77344d540b205b84c4cbd1fa4d10ff1e99c0bb58cba6a75b29f3dec9d4d126cf5cda91facaf09b8653e1"},
	} {
		if hex.EncodeToString([]byte(x.b)) != x.want {
			t.Errorf("%x, not %s", x.b, x.want)
		}
	}
}

func TestP63Wrap(t *testing.T) {
	for _, master := range masters() {
		for _, current := range numbers {
			a := start(t, master, current, 9)
			for _, text := range []string{"", "x", "the secret of a path", all(), "x"} {
				a.opens(t, a.wrap(t, "about", text), "about", text)
			}
			a.rotate(t)
			a.wrap(t, "about", "x")
		}
	}
}

func TestP63Boots(t *testing.T) {
	for _, boot := range boots {
		a := start(t, "master", 2, boot)
		for range 3 {
			a.opens(t, a.wrap(t, "a", "x"), "a", "x")
		}
	}
}

func TestP63Abouts(t *testing.T) {
	a := start(t, "master", 2, 1)
	for _, about := range abouts() {
		b := a.wrap(t, about, "x")
		for _, other := range abouts() {
			if s, e := a.open(t, b, other); (e == api.OK) != (other == about) || e != api.OK && (e != api.ErrMac || s != "") {
				t.Errorf("%q about %q: %d", about, other, e)
			}
		}
	}
}

func TestP63Sizes(t *testing.T) {
	a := start(t, "master", 2, 1)
	for _, n := range sizes {
		for _, text := range []string{some(n, 12), strings.Repeat("\x00", n), strings.Repeat("\xff", n)} {
			a.opens(t, a.wrap(t, "a", text), "a", text)
		}
	}
}

// What is too long is refused, is not counted, and leaves no gap.
func TestP63TooLong(t *testing.T) {
	for _, current := range numbers {
		a := start(t, "master", current, 1)
		for _, n := range tooLong {
			for _, about := range []string{"", "a", some(maxSeal+1, 13)} {
				if b, e := a.ring.Wrap(about, some(n, 14)); b != "" || e != api.ErrLong {
					t.Fatalf("Wrap of %d bytes is answered %d", n, e)
				}
				a.stands(t)
			}
			a.wrap(t, "a", some(n%9, 15))
		}
	}
}

// Where more than one holds, that there is no ring is told first.
func TestP63NoneFirst(t *testing.T) {
	above := sealed(keyOf("", 1), 1, 0, 0, "a", "x")
	good := sealed(keyOf("", 0), 0, 0, 0, "a", "x")
	for name, r := range nones() {
		for _, n := range append(tooLong, sizes...) {
			if b, e := r.Wrap("a", some(n, 16)); b != "" || e != api.ErrNil {
				t.Errorf("%s: Wrap of %d bytes is answered %d", name, n, e)
			}
		}
		for _, b := range []string{"", "\xff", good, good[1:], good + "\x00", turned(good, 30), above, all()} {
			for _, about := range []string{"a", "b"} {
				if s, e := r.Open(b, about); s != "" || e != api.ErrNil {
					t.Errorf("%s: Open of %x is answered %d", name, b, e)
				}
			}
		}
	}
}

// Whoever sealed it: what is sealed under a key of the master, of any boot and count, is opened.
func TestP63Open(t *testing.T) {
	a := start(t, "master", maxRing, 1)
	for _, i := range numbers {
		for _, boot := range boots {
			for _, n := range counts {
				a.opens(t, sealed(keyOf("master", i), i, boot, n, "a", "text"), "a", "text")
			}
		}
	}
	for _, n := range sizes {
		a.opens(t, sealed(keyOf("master", 4), 4, 2, 3, "a", some(n, 17)), "a", some(n, 17))
	}
}

// The key that seals now opens; one above it does not, whether the tag is right or not.
func TestP63Above(t *testing.T) {
	for _, current := range numbers {
		a := start(t, "master", current, 1)
		for _, i := range append(numbers, current-1, current+1) {
			if i < 0 || i > maxRing {
				continue
			}
			b := sealed(keyOf("master", i), i, 2, 3, "a", "text")
			if i > current {
				a.shut(t, b, "a", api.ErrKey)
				a.shut(t, b, "b", api.ErrKey)
				a.shut(t, b[:len(b)-1]+"?", "a", api.ErrKey)
				a.shut(t, turned(b, 8*(len(b)-tagSize-1)), "a", api.ErrKey)
				a.kept(t, b, "a", start(t, "m", 2, 3), "b", api.ErrKey)
			} else {
				a.opens(t, b, "a", "text")
				a.shut(t, b, "b", api.ErrMac)
				a.shut(t, b[:len(b)-1]+"?", "a", api.ErrMac)
			}
		}
	}
}

// Once a ring has turned to it, what it refused is opened.
func TestP63AboveForAWhile(t *testing.T) {
	a := start(t, "master", 0, 1)
	for i := range 6 {
		b := sealed(keyOf("master", i), i, 2, 3, "a", "text")
		for a.ring.Current() < i {
			a.shut(t, b, "a", api.ErrKey)
			a.rotate(t)
		}
		a.opens(t, b, "a", "text")
		a.shut(t, b, "b", api.ErrMac)
	}
}

// What can't be read is told ahead of a key that is above, and of a tag that isn't right.
func TestP63Order(t *testing.T) {
	for _, current := range []int{0, 3, maxRing} {
		a := start(t, "master", current, 1)
		for _, i := range []int{0, 3, 4, 128, maxRing} {
			b := sealed(keyOf("master", i), i, 2, 3, "a", "text")
			for cut := range b {
				a.shut(t, b[:cut], "a", api.ErrShort)
				a.shut(t, b[:cut], "b", api.ErrShort)
			}
			for _, more := range []string{"\x00", "a", "\xff", b} {
				a.shut(t, b+more, "a", api.ErrForm)
				a.shut(t, b+more, "b", api.ErrForm)
			}
		}
		for _, i := range []uint64{maxRing + 1, 1 << 21, 1 << 32, 1 << 63, math.MaxUint64} {
			b := number(i) + sealed(keyOf("master", 0), 0, 2, 3, "a", "text")[1:]
			a.shut(t, b, "a", api.ErrForm)
			a.shut(t, number(i), "a", api.ErrForm)
		}
		a.shut(t, "\x00"+number(1<<32)+"\x00\x00"+some(tagSize, 18), "a", api.ErrForm)
		a.shut(t, "\x00\x00\x00"+textOf(some(maxSeal+1, 19))+some(tagSize, 20), "a", api.ErrForm)
		a.shut(t, "\x80\x00\x00\x00\x00"+some(tagSize, 21), "a", api.ErrForm)
	}
}

// A key's number that isn't the one that sealed.
func TestP63OtherNumber(t *testing.T) {
	a := start(t, "master", maxRing, 1)
	for _, i := range numbers {
		for _, j := range numbers {
			b := sealed(keyOf("master", i), j, 2, 3, "a", "text")
			if i == j {
				a.opens(t, b, "a", "text")
			} else {
				a.shut(t, b, "a", api.ErrMac)
			}
		}
	}
	for _, i := range append(beyond, 7) {
		a.shut(t, sealed(keyOf("master", i), 5, 2, 3, "a", "text"), "a", api.ErrMac)
	}
	// Neither the master itself seals, nor noughts, nor the key that seals now.
	own := "master" + strings.Repeat("\x00", 26)
	for _, key := range []string{own, strings.Repeat("\x00", 32), keyOf("master", maxRing)} {
		a.shut(t, sealed(key, 5, 2, 3, "a", "text"), "a", api.ErrMac)
	}
}

// Bytes with one bit turned.
func TestP63Bits(t *testing.T) {
	for _, current := range []int{0, 1, 5, 200, maxRing} {
		a := start(t, "master", current, 300)
		for _, text := range []string{"", "text", some(130, 22)} {
			b := a.wrap(t, "about", text)
			for i := range 8 * len(b) {
				if s, e := a.open(t, turned(b, i), "about"); e == api.OK || s != "" {
					t.Errorf("bit %d of %x: %d, %q", i, b, e, s)
				}
			}
			for i := range 8 * len("about") {
				a.shut(t, b, turned("about", i), api.ErrMac)
			}
			a.opens(t, b, "about", text)
		}
	}
}

// Bytes that were changed by chance, or that never were any.
func TestP63Chance(t *testing.T) {
	a := start(t, "master", 150, 300)
	for seed := range int64(4000) {
		r := rand.New(rand.NewSource(seed))
		i := r.Intn(300) >> r.Intn(9)
		b := []byte(sealed(keyOf("master", i), i, r.Uint32()>>r.Intn(32), r.Uint64()>>r.Intn(64), "a", some(r.Intn(20), seed)))
		for range r.Intn(3) {
			at := r.Intn(len(b))
			switch r.Intn(3) {
			case 0:
				b[at] = byte(r.Intn(256))
			case 1:
				b = append(b[:at], b[at+1:]...)
			case 2:
				b = append(b[:at], append([]byte{byte(r.Intn(256))}, b[at:]...)...)
			}
		}
		a.open(t, string(b), "a")
		a.open(t, some(int(seed%80), seed), "a")
	}
	for _, b := range []string{"", "\xff", all(), "hello", strings.Repeat("\xff", 1<<16), strings.Repeat("\x00", 1<<16), strings.Repeat("\x00", 4+tagSize)} {
		a.open(t, b, "a")
	}
}

func TestP64Rewrap(t *testing.T) {
	for _, master := range masters() {
		from, to := start(t, "master", 4, 1), start(t, master, 2, 9)
		for _, n := range sizes {
			text := some(n, 23)
			b := from.wrap(t, "a", text)
			to.opens(t, from.rewrapped(t, b, "a", to, "b"), "b", text)
			from.opens(t, b, "a", text)
		}
	}
}

// Each about is the one of its own side.
func TestP64Abouts(t *testing.T) {
	from, to := start(t, "master", 4, 1), start(t, "other", 2, 9)
	for _, about := range abouts() {
		b := from.wrap(t, about, "x")
		for _, other := range abouts() {
			c := from.rewrapped(t, b, about, to, other)
			to.opens(t, c, other, "x")
			if other != about {
				from.kept(t, b, other, to, about, api.ErrMac)
				to.shut(t, c, about, api.ErrMac)
			}
		}
	}
}

// A ring may wrap anew for itself: under the key that seals now, and counted.
func TestP64Itself(t *testing.T) {
	a := start(t, "master", 0, 1)
	b := a.wrap(t, "a", "x")
	for i := range 5 {
		a.rotate(t)
		b = a.rewrapped(t, b, "a", a, "a")
		if x, e := readOf(b); e != api.OK || x.Key != i+1 || x.N != uint64(i+1) {
			t.Errorf("turn %d: %v", i, x)
		}
		a.opens(t, b, "a", "x")
	}
}

// The other ring's own key seals, whichever of the two came farther.
func TestP64Keys(t *testing.T) {
	for _, i := range numbers {
		for _, j := range numbers {
			from, to := start(t, "master", i, 1), start(t, "master", j, 2)
			b := from.rewrapped(t, from.wrap(t, "a", "x"), "a", to, "b")
			if x, _ := readOf(b); x.Key != j || x.Boot != 2 {
				t.Errorf("from %d to %d: %v", i, j, x)
			}
			to.opens(t, b, "b", "x")
		}
	}
}

// With none on either side nothing else counts: neither the bytes, nor what they are about; and nothing is counted.
func TestP64None(t *testing.T) {
	a := start(t, "master", 4, 1)
	good := a.wrap(t, "a", "x")
	bad := []string{good, "", "\xff", good[1:], good + "\x00", turned(good, 30), sealed(keyOf("master", 5), 5, 0, 0, "a", "x")}
	for name, none := range nones() {
		for _, b := range bad {
			for _, about := range []string{"a", "b"} {
				for i, ask := range []func() (string, api.Errno){
					func() (string, api.Errno) { return a.ring.Rewrap(b, about, none, "c") },
					func() (string, api.Errno) { return none.Rewrap(b, about, a.ring, "c") },
					func() (string, api.Errno) { return none.Rewrap(b, about, none, "c") },
					func() (string, api.Errno) { return none.Rewrap(b, about, nil, "c") },
				} {
					if s, e := ask(); s != "" || e != api.ErrNil {
						t.Errorf("%s, %d: Rewrap of %x is answered %d", name, i, b, e)
					}
					a.stands(t)
				}
			}
		}
	}
	a.opens(t, good, "a", "x")
}

// Open's error is told, and counts nothing on either side.
func TestP64Errors(t *testing.T) {
	from, to := start(t, "master", 4, 1), start(t, "master", 9, 2)
	for range 3 {
		b := from.wrap(t, "a", "text")
		for cut := range b {
			from.kept(t, b[:cut], "a", to, "b", api.ErrShort)
		}
		from.kept(t, b+"\x00", "a", to, "b", api.ErrForm)
		from.kept(t, b+b, "a", to, "b", api.ErrForm)
		from.kept(t, b, "b", to, "a", api.ErrMac)
		for i := range 8 * len(b) {
			if s, e := from.rewrap(t, turned(b, i), "a", to, "b"); e == api.OK || s != "" {
				t.Errorf("bit %d: %d", i, e)
			}
		}
		above := to.wrap(t, "a", "text")
		from.kept(t, above, "a", to, "b", api.ErrKey)
		from.kept(t, above, "b", to, "b", api.ErrKey)
		from.kept(t, above, "a", from, "b", api.ErrKey)
		from.rewrapped(t, b, "a", to, "b")
	}
}

// What was wrapped, by which key and boot soever, is opened ever after.
func TestP65EverAfter(t *testing.T) {
	for _, current := range []int{0, 1, 126, 16382, maxRing - 3} {
		a := start(t, "master", current, 7)
		var was []string
		for range 6 {
			was = append(was, a.wrap(t, "a", "x"), a.wrap(t, "a", ""), a.wrap(t, "a", "x"))
			for i, b := range was {
				a.opens(t, b, "a", strings.Repeat("x", (i%3+1)%2))
				a.shut(t, b, "b", api.ErrMac)
			}
			a.rotate(t)
		}
	}
}

// Another ring of the same master opens it, if it has come as far, by New or turn by turn, whatever its boot.
func TestP65AsFar(t *testing.T) {
	for _, i := range numbers {
		for _, boot := range boots {
			b := start(t, "master", i, boot).wrap(t, "a", "x")
			for _, far := range []int{0, 1, 2} {
				if i+far > maxRing {
					continue
				}
				start(t, "master", i+far, 3).opens(t, b, "a", "x")
				rotatedTo(t, "master", i+far, min(i+far, 3), boot).opens(t, b, "a", "x")
			}
			for _, back := range []int{1, 2, i} {
				if back > 0 && back <= i {
					start(t, "master", i-back, boot).shut(t, b, "a", api.ErrKey)
				}
			}
		}
	}
}

// Rings of other masters open nothing of it; two masters that make one block are the same one.
func TestP65OtherMasters(t *testing.T) {
	for _, master := range masters() {
		a := rotatedTo(t, master, 3, 2, 5)
		b := a.wrap(t, "a", "x")
		for _, other := range masters() {
			o := start(t, other, 3, 5)
			if keyOf(other, 3) == keyOf(master, 3) {
				o.opens(t, b, "a", "x")
			} else {
				o.shut(t, b, "a", api.ErrMac)
				o.kept(t, b, "a", a, "a", api.ErrMac)
			}
			a.opens(t, b, "a", "x")
		}
	}
}

// No two have the same Boot and N, whichever keys seal, and whatever is refused between.
func TestP65Nonces(t *testing.T) {
	a, from := start(t, "master", 0, 7), start(t, "other", 3, 7)
	text := from.wrap(t, "a", "x")
	for want := range uint64(400) {
		b := ""
		switch want % 4 {
		case 0:
			b = a.wrap(t, "a", "x")
		case 1:
			a.rotate(t)
			b = a.wrap(t, "a", "x")
		case 2:
			b = from.rewrapped(t, text, "a", a, "a")
		case 3:
			a.ring.Wrap("a", some(maxSeal+1, 24))
			from.kept(t, text, "b", a, "a", api.ErrMac)
			b = a.rewrapped(t, a.wrap(t, "a", "y"), "a", a, "a")
		}
		x, e := readOf(b)
		if wrapped := want + (want+1)/4; e != api.OK || x.Boot != 7 || x.N != wrapped {
			t.Fatalf("%d: Boot %d, N %d, not %d", want, x.Boot, x.N, wrapped)
		}
	}
}

// N goes on where it takes one more byte, twice.
func TestP65Many(t *testing.T) {
	a := start(t, "master", 1, 7)
	for want := range uint64(1<<14 + 3) {
		b, e := a.ring.Wrap("", "")
		if e != api.OK || !strings.HasPrefix(b, "\x01\x07"+number(want)+"\x00") {
			t.Fatalf("%d: %d, %x", want, e, b)
		}
	}
	a.told.n = 1<<14 + 3
	a.stands(t)
	a.opens(t, a.wrap(t, "a", "x"), "a", "x")
}

// N goes on beyond 16 bits.
func TestP65VeryMany(t *testing.T) {
	if testing.Short() {
		t.Skip("wraps some 66000 texts")
	}
	a := start(t, "master", 1, 7)
	first, e := a.ring.Wrap("", "x")
	if e != api.OK {
		t.Fatal(e)
	}
	for a.told.n = 1; a.told.n < 1<<16+2; a.told.n++ {
		if _, e := a.ring.Wrap("", ""); e != api.OK {
			t.Fatalf("%d: %d", a.told.n, e)
		}
	}
	a.stands(t)
	a.wrap(t, "", "x")
	a.opens(t, first, "", "x")
}

// From ring to ring, and back again: the text stays.
func TestP65Round(t *testing.T) {
	l := []*asked{start(t, "master", 0, 1), start(t, "other", 5, 1), start(t, "master", 9, 1), start(t, "", maxRing, 0), start(t, some(100, 25), 128, math.MaxUint32)}
	for seed := range int64(40) {
		r := rand.New(rand.NewSource(seed))
		text, about := some(r.Intn(100), seed), some(r.Intn(9), seed)
		at := l[r.Intn(len(l))]
		b := at.wrap(t, about, text)
		for range 12 {
			to, other := l[r.Intn(len(l))], some(r.Intn(9), r.Int63())
			b = at.rewrapped(t, b, about, to, other)
			at, about = to, other
			if r.Intn(3) == 0 {
				at.rotate(t)
			}
			at.opens(t, b, about, text)
		}
	}
}

// The same calls have the same answers, whatever other rings do between.
func TestP65Again(t *testing.T) {
	play := func(between func()) (l []string) {
		a := start(t, "master", 3, 7)
		for i := range 6 {
			between()
			l = append(l, a.wrap(t, "a", some(i, 26)))
			between()
			a.rotate(t)
			l = append(l, a.rewrapped(t, l[0], "a", a, "b"))
		}
		return l
	}
	first := play(func() {})
	o, twin := start(t, "other", 3, 7), start(t, "master", 3, 7)
	again := play(func() {
		o.wrap(t, "a", "x")
		o.rotate(t)
		twin.wrap(t, "a", "x")
		twin.rotate(t)
	})
	for i, b := range first {
		if again[i] != b {
			t.Errorf("answer %d: %x and %x", i, b, again[i])
		}
	}
}

// Some rings, asked by chance, go as the chapter tells.
func TestP65Chance(t *testing.T) {
	for seed := range int64(60) {
		r := rand.New(rand.NewSource(seed))
		var l []*asked
		for range 4 {
			l = append(l, start(t, []string{"master", "other"}[r.Intn(2)], []int{0, 1, 2, 127, maxRing - 1}[r.Intn(5)], uint32(r.Intn(2))))
		}
		var was []string
		about := func() string { return []string{"", "a", "b"}[r.Intn(3)] }
		some := func() string {
			if len(was) == 0 {
				return ""
			}
			return was[r.Intn(len(was))]
		}
		for range 150 {
			a := l[r.Intn(len(l))]
			switch r.Intn(6) {
			case 0, 1:
				was = append(was, a.wrap(t, about(), strings.Repeat("x", r.Intn(40))))
			case 2:
				a.rotate(t)
			case 3, 4:
				a.open(t, some(), about())
			case 5:
				if b, e := a.rewrap(t, some(), about(), l[r.Intn(len(l))], about()); e == api.OK {
					was = append(was, b)
				}
			}
		}
	}
}

// The chapter's examples.
func TestP65Examples(t *testing.T) {
	for _, current := range []int{-1, 1<<20 + 1} {
		if r, e := ring.New("m", current, 0); r != nil || e != api.ErrArg {
			t.Errorf("New of %d: %d", current, e)
		}
	}
	a := start(t, "m", 0, 7)
	first := a.wrap(t, "a", "x")
	a.rotate(t)
	second := a.wrap(t, "a", "x")
	if boot, n := a.ring.Count(); first == second || boot != 7 || n != 2 {
		t.Errorf("%x, %x, %d, %d", first, second, boot, n)
	}
	a.opens(t, first, "a", "x")
	a.opens(t, second, "a", "x")
	o := start(t, "m", 0, 8)
	o.shut(t, second, "a", api.ErrKey)
	o.shut(t, first, "b", api.ErrMac)
}
