package sha_test

import (
	"crypto/sha256"
	"fmt"
	"math/rand"
	"strings"
	"testing"

	"twinlock/api"
	"twinlock/sha"
)

// hashOf is a text's hash, as others tell it.
func hashOf(s string) api.Hash { return sha256.Sum256([]byte(s)) }

// text is a text of n bytes, the same one for the same n and seed.
func text(n int, seed int64) string {
	r := rand.New(rand.NewSource(seed))
	b := make([]byte, n)
	r.Read(b)
	return string(b)
}

// edges are lengths about a block's end, and about where the number of bits still fits in it.
func edges() []int {
	var l []int
	for _, n := range []int{0, 64, 128, 192, 1024} {
		for _, d := range []int{-10, -9, -8, -7, -2, -1, 0, 1, 2} {
			if n+d >= 0 {
				l = append(l, n+d)
			}
		}
	}
	return l
}

// holds asks what was written to x.
func holds(t *testing.T, x *sha.Sha, s string) {
	t.Helper()
	if h := x.Sum(); h != hashOf(s) || x.Len() != len(s) {
		t.Fatalf("%d bytes: Sum %x, Len %d, not %x", len(s), h, x.Len(), hashOf(s))
	}
}

// write writes s to x, and asks what Write tells.
func write(t *testing.T, x *sha.Sha, s string) {
	t.Helper()
	if n := x.Write(s); n != len(s) {
		t.Fatalf("Write of %d bytes tells %d", len(s), n)
	}
}

func TestP21Examples(t *testing.T) {
	for s, want := range map[string]string{
		"":    "e3b0c44298fc1c149afbf4c8996fb92427ae41e4649b934ca495991b7852b855",
		"abc": "ba7816bf8f01cfea414140de5dae2223b00361a396177a9cb410ff61f20015ad",
		"abcdbcdecdefdefgefghfghighijhijkijkljklmklmnlmnomnopnopq": "248d6a61d20638b8e5c026930c3e6039a33ce45964ff2167f6ecedd419db06c1",
		strings.Repeat("a", 1000000):                               "cdc76e5c9914fb9281a1c7e284d73e67f1809a48a497200e046d39ccc7112cd0",
	} {
		if d := sha.Digits(sha.Sum(s)); d != want {
			t.Errorf("%d bytes: %s, not %s", len(s), d, want)
		}
	}
}

func TestP21Lengths(t *testing.T) {
	for n := range 400 {
		for _, s := range []string{strings.Repeat("\x00", n), strings.Repeat("\x80", n), strings.Repeat("\xff", n), text(n, int64(n))} {
			if h := sha.Sum(s); h != hashOf(s) || sha.Sum(s) != h {
				t.Errorf("%d bytes: %x, not %x", n, h, hashOf(s))
			}
		}
	}
}

// Each bit of a block counts, wherever it stands.
func TestP21Bits(t *testing.T) {
	for i := range 8 * 128 {
		b := make([]byte, 128)
		b[i/8] = 1 << (i % 8)
		if h := sha.Sum(string(b)); h != hashOf(string(b)) {
			t.Errorf("bit %d: %x", i, h)
		}
	}
}

func TestP21Chance(t *testing.T) {
	for seed := range int64(2000) {
		s := text(rand.New(rand.NewSource(seed)).Intn(2000), seed)
		if sha.Sum(s) != hashOf(s) {
			t.Fatalf("%d bytes by %d", len(s), seed)
		}
	}
}

func TestP21Digits(t *testing.T) {
	for i := range 32 {
		for c := range 256 {
			var h api.Hash
			h[i] = byte(c)
			if d := sha.Digits(h); d != fmt.Sprintf("%x", [32]byte(h)) {
				t.Errorf("byte %d is %d: %s", i, c, d)
			}
		}
	}
	h := hashOf("any")
	if d := sha.Digits(h); len(d) != 64 || d != fmt.Sprintf("%x", [32]byte(h)) {
		t.Errorf("%x: %s", h, d)
	}
}

func TestP22Example(t *testing.T) {
	x := sha.New()
	if x.Write("a") != 1 || x.Write("bc") != 2 || x.Len() != 3 || x.Sum() != sha.Sum("abc") {
		t.Error("a, then bc")
	}
}

func TestP22New(t *testing.T) {
	a, b := sha.New(), sha.New()
	holds(t, a, "")
	write(t, a, "a")
	holds(t, b, "")
	holds(t, a, "a")
	holds(t, sha.New(), "")
}

func TestP22Nothing(t *testing.T) {
	for _, n := range edges() {
		s := text(n, 1)
		x := sha.New()
		write(t, x, "")
		write(t, x, s)
		write(t, x, "")
		holds(t, x, s)
	}
}

// A hash is asked at each length, twice, and written on behind it.
func TestP22AskedAgain(t *testing.T) {
	s := text(300, 2)
	x := sha.New()
	for i := range len(s) {
		holds(t, x, s[:i])
		holds(t, x, s[:i])
		write(t, x, s[i:i+1])
	}
	holds(t, x, s)
	for _, n := range edges() {
		x := sha.New()
		head := text(n, 3)
		write(t, x, head)
		holds(t, x, head)
		for _, m := range edges() {
			more := text(m, 4)
			y := x.Twin()
			holds(t, y, head)
			write(t, y, more)
			holds(t, y, head+more)
			holds(t, y, head+more)
		}
	}
}

// A twin and what it was made of go their own ways, whichever is written to first.
func TestP22Twin(t *testing.T) {
	for _, n := range edges() {
		head := text(n, 5)
		for _, m := range edges() {
			a, b := text(m, 6), text(m+1, 7)
			for first := range 2 {
				x := sha.New()
				write(t, x, head)
				y := x.Twin()
				if y == x {
					t.Fatal("a twin is another one")
				}
				if first == 0 {
					write(t, x, a)
					holds(t, y, head)
					write(t, y, b)
				} else {
					write(t, y, b)
					holds(t, x, head)
					write(t, x, a)
				}
				holds(t, x, head+a)
				holds(t, y, head+b)
			}
		}
	}
}

// Many twins of twins, each written to by turns, in small pieces.
func TestP22Twins(t *testing.T) {
	r := rand.New(rand.NewSource(8))
	all := []*sha.Sha{sha.New()}
	want := []string{""}
	for range 4000 {
		i := r.Intn(len(all))
		if len(all) < 40 && r.Intn(10) == 0 {
			all = append(all, all[i].Twin())
			want = append(want, want[i])
		}
		s := text(r.Intn(70), r.Int63())
		write(t, all[i], s)
		want[i] += s
		j := r.Intn(len(all))
		holds(t, all[j], want[j])
	}
	for i, x := range all {
		holds(t, x, want[i])
	}
}

// A copy by value goes its own way, too.
func TestP22Copy(t *testing.T) {
	for _, n := range edges() {
		head := text(n, 9)
		x := sha.New()
		write(t, x, head)
		y := *x
		write(t, x, "a")
		write(t, &y, "bcd")
		holds(t, x, head+"a")
		holds(t, &y, head+"bcd")
	}
}

// The number of bits is beyond 32 of them.
func TestP22Long(t *testing.T) {
	if testing.Short() {
		t.Skip("many bytes")
	}
	const size, times = 1 << 20, 1<<9 + 1
	s := text(size, 10)
	x, y := sha.New(), sha256.New()
	for range times {
		write(t, x, s)
		y.Write([]byte(s))
	}
	if h := x.Sum(); h != api.Hash(y.Sum(nil)) || x.Len() != size*times {
		t.Errorf("%x, %d bytes", h, x.Len())
	}
}

func TestP23None(t *testing.T) {
	var none *sha.Sha
	if none.Twin() != nil {
		t.Error("a twin of nil")
	}
	for i, x := range []*sha.Sha{nil, {}, new(sha.Sha), new(sha.Sha).Twin()} {
		for _, s := range []string{"", "a", strings.Repeat("a", 64), strings.Repeat("a", 200)} {
			if n := x.Write(s); n != 0 {
				t.Errorf("%d: Write tells %d", i, n)
			}
			holds(t, x, "")
		}
	}
	x := new(sha.Sha)
	y := x.Twin()
	if y == nil || y == x {
		t.Error("a twin is another one")
	}
	y.Write("a")
	holds(t, x, "")
	holds(t, y, "")
}

// What is nobody's leaves those alone that New made.
func TestP23Apart(t *testing.T) {
	x := sha.New()
	write(t, x, "a")
	var none *sha.Sha
	none.Write("b")
	new(sha.Sha).Write("b")
	none.Sum()
	holds(t, x, "a")
	holds(t, sha.New(), "")
}

func TestP24InTwo(t *testing.T) {
	for _, n := range edges() {
		s := text(n, 11)
		for cut := range n + 1 {
			x := sha.New()
			write(t, x, s[:cut])
			write(t, x, s[cut:])
			if x.Sum() != sha.Sum(s) || x.Len() != n {
				t.Fatalf("%d bytes, cut at %d", n, cut)
			}
		}
	}
}

func TestP24InThree(t *testing.T) {
	s := text(140, 12)
	want := sha.Sum(s)
	for a := range len(s) {
		for b := a; b < len(s); b++ {
			x := sha.New()
			write(t, x, s[:a])
			write(t, x, s[a:b])
			write(t, x, s[b:])
			if x.Sum() != want {
				t.Fatalf("cut at %d and %d", a, b)
			}
		}
	}
}

func TestP24EqualPieces(t *testing.T) {
	for n := 1; n <= 200; n++ {
		s := text(1000, int64(n))
		x := sha.New()
		for rest := s; rest != ""; {
			size := min(n, len(rest))
			write(t, x, rest[:size])
			rest = rest[size:]
		}
		holds(t, x, s)
	}
}

func TestP24Chance(t *testing.T) {
	for seed := range int64(1000) {
		r := rand.New(rand.NewSource(seed))
		s := ""
		x := sha.New()
		for range r.Intn(12) {
			piece := text(r.Intn(1+r.Intn(200)), r.Int63())
			write(t, x, piece)
			s += piece
		}
		holds(t, x, s)
	}
}
