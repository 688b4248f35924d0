package path_test

import (
	"math/rand"
	"strings"
	"testing"

	"twinlock/path"
)

// edgy are bytes at whose neighbours a text begins, or ends, to be a name or a key.
const edgy = "az`{A/.0\x00\x01\xff"

func TestP111Examples(t *testing.T) {
	cutsTo(t, "app/db", "app", "db", true)
	for _, p := range []string{"app/", "/db", "app/a/b", "App/x", "app"} {
		cutsTo(t, p, "", "", false)
	}
	for _, x := range []struct {
		mount, key, want string
		ok               bool
	}{{"app", "db", "app/db", true}, {"app", "a/b", "", false}, {"ninechars", "x", "", false}} {
		if s, ok := path.Join(x.mount, x.key); s != x.want || ok != x.ok {
			t.Errorf("Join(%q, %q): %q, %v", x.mount, x.key, s, ok)
		}
	}
}

// The two reckonings say the same.
func TestReckonings(t *testing.T) {
	for _, p := range append(short(5, edgy), joined(names(), keys())...) {
		m, k, ok := cutOf(p)
		if n, l, is := walk(p); n != m || l != k || is != ok {
			t.Fatalf("%.99q: %q, %q, %v and %q, %q, %v", p, m, k, ok, n, l, is)
		}
	}
}

// joined are texts of names and keys: of each name and some keys, and of each key and some names.
func joined(names, keys []string) []string {
	var l []string
	for _, n := range names {
		for _, k := range []string{"", "x", keyed(maxKey), keyed(maxKey + 1)} {
			l = append(l, n+"/"+k)
		}
	}
	for _, k := range keys {
		for _, n := range []string{"", "x", letters(maxMount), letters(maxMount + 1)} {
			l = append(l, n+"/"+k)
		}
	}
	return l
}

func TestP111Cut(t *testing.T) {
	for _, p := range joined(names(), keys()) {
		cuts(t, p)
	}
}

// A name, or a key, of each length, without wrong bytes: what is told is said here by the lengths alone.
func TestP111Lengths(t *testing.T) {
	for n := range maxMount + 4 {
		for k := range maxKey + 4 {
			bothTo(t, letters(n), keyed(k), n >= 1 && n <= 8 && k >= 1 && k <= 24)
		}
	}
}

// Each byte of 0 to 255, first, in the middle and last, in a name: just those of a to z may be there.
func TestP111NameBytes(t *testing.T) {
	for c := range 256 {
		ok := c >= 'a' && c <= 'z'
		for _, n := range []int{1, 2, 3, maxMount} {
			for i := range n {
				b := []byte(letters(n))
				b[i] = byte(c)
				bothTo(t, string(b), "x", ok)
			}
		}
	}
}

// Each byte of 0 to 255, first, in the middle and last, in a key: all but 0 and / may be there.
func TestP111KeyBytes(t *testing.T) {
	for c := range 256 {
		ok := c != 0 && c != '/'
		for _, n := range []int{1, 2, 3, maxKey} {
			for i := range n {
				b := []byte(keyed(n))
				b[i] = byte(c)
				bothTo(t, "app", string(b), ok)
			}
		}
	}
}

// Slashes: none, at the beginning, at the end, side by side, more than one.
func TestP111Slashes(t *testing.T) {
	for _, p := range []string{"", "/", "//", "///", "app", "/app", "app/", "//app", "app//", "/app/", "app//x", "app/x/", "/app/x", "a/b/c", "a/b/c/d", "app/x//", "//app/x", "app/\x00", "\x00/x", "app\x00/x", "app\\x", "app:x", "app x", "app\xc0\xafx", strings.Repeat("/", 33), strings.Repeat("a/", 16)} {
		cutsTo(t, p, "", "", false)
	}
	// One slash at each place of a text of each length.
	for n := range maxPath + 4 {
		for at := range n {
			s := letters(n)
			p := s[:at] + "/" + s[at+1:]
			mount, key := s[:at], s[at+1:]
			if at < 1 || at > 8 || len(key) < 1 || len(key) > 24 {
				mount, key = "", ""
			}
			cutsTo(t, p, mount, key, mount != "")
			// And another one at each other place.
			for other := range n {
				if other != at {
					cutsTo(t, p[:other]+"/"+p[other+1:], "", "", false)
				}
			}
		}
	}
}

// Texts that are not UTF-8 are taken byte by byte.
func TestP111NoUTF8(t *testing.T) {
	for _, key := range []string{"\xff", "\x80", "\xc3", "\xc3\x28", "\xed\xa0\x80", "\xf8\x88\x80\x80\x80", "\xc0\xaf", "a\xffb", strings.Repeat("\xff", maxKey), strings.Repeat("\xe2\x82\xac", maxKey/3), strings.Repeat("\xe2\x82", maxKey/2)} {
		cutsTo(t, "app/"+key, "app", key, true)
		cutsTo(t, key+"/x", "", "", false)
		cutsTo(t, "app"+key+"/x", "", "", false)
		joins(t, key, "x")
		joins(t, "app", key+"/")
	}
	for _, key := range []string{strings.Repeat("\xff", maxKey+1), strings.Repeat("\xe2\x82\xac", maxKey/3+1), "\xff/", "\xff\x00"} {
		cutsTo(t, "app/"+key, "", "", false)
		joins(t, "app", key)
	}
}

// Texts of many thousand bytes are no paths, wherever a slash is, and no names, no keys.
func TestP111Huge(t *testing.T) {
	long := letters(huge)
	l := []string{long, "/" + long, long + "/", "app/" + long, long + "/x", long + "/" + long, "app/x" + strings.Repeat("\x00", huge), strings.Repeat("/", huge), strings.Repeat("a/", huge), "app/" + strings.Repeat("\xff", huge), strings.Repeat("\x00", huge)}
	for _, p := range l {
		cutsTo(t, p, "", "", false)
		for _, x := range [][2]string{{p, "x"}, {"app", p}, {p, p}, {p, ""}, {"", p}} {
			if s, ok := path.Join(x[0], x[1]); s != "" || ok {
				t.Errorf("Join(%.20q.., %.20q..): %.20q, %v", x[0], x[1], s, ok)
			}
		}
	}
	// Lengths that are the greatest ones modulo 256 and 2^16, too.
	for _, n := range []int{256, 1 << 16} {
		for _, m := range []int{1, maxMount, maxKey} {
			cutsTo(t, letters(n+m)+"/x", "", "", false)
			cutsTo(t, "app/"+letters(n+m), "", "", false)
		}
		cutsTo(t, "app/"+letters(n-4+maxPath), "", "", false)
	}
}

func TestP111Join(t *testing.T) {
	some := []string{"", "a", "app", "App", "a/", letters(maxMount), letters(maxMount + 1)}
	for _, k := range keys() {
		for _, n := range some {
			joins(t, n, k)
		}
	}
	some = []string{"", "x", "/", "\x00", "a/b", keyed(maxKey), keyed(maxKey + 1)}
	for _, n := range names() {
		for _, k := range some {
			joins(t, n, k)
		}
	}
	// A path is no name, and a key may be one.
	joins(t, "app/x", "y")
	joins(t, "app/", "x")
	joins(t, "app", "/x")
	joins(t, "app", "app")
	joins(t, "app", "app/x")
}

// Names and keys by chance, of all bytes and of few.
func TestP111Chance(t *testing.T) {
	r := rand.New(rand.NewSource(11))
	var each []byte
	for c := range 256 {
		each = append(each, byte(c))
	}
	alphabets := []string{string(each), edgy, "abcxyz", "a/", "ab/\x00"}
	for range 200_000 {
		name := some(r, r.Intn(11), alphabets[r.Intn(len(alphabets))])
		key := some(r, r.Intn(28), alphabets[r.Intn(len(alphabets))])
		joins(t, name, key)
		cuts(t, name+"/"+key)
		cuts(t, name+key)
	}
}

// What Cut and Join tell is their own, whatever becomes of the bytes that were handed in.
func TestP111Memory(t *testing.T) {
	p := []byte("app/db")
	mount, key, ok := path.Cut(textOn(p))
	clear(p)
	if mount != "app" || key != "db" || !ok {
		t.Errorf("Cut: %q, %q, %v", mount, key, ok)
	}
	m, k := []byte("app"), []byte("db")
	s, ok := path.Join(textOn(m), textOn(k))
	clear(m)
	clear(k)
	if s != "app/db" || !ok {
		t.Errorf("Join: %q, %v", s, ok)
	}
}

// What is asked again is answered again, whatever was asked between.
func TestP111Again(t *testing.T) {
	for range 3 {
		for _, p := range []string{"app/db", "app/", "ops/k", "app/a/b", "", "App/x"} {
			cuts(t, p)
		}
		joins(t, "app", "db")
		joins(t, "app", "a/b")
	}
}
