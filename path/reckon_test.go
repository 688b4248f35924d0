package path_test

import (
	"math/rand"
	"regexp"
	"slices"
	"strings"
	"testing"
	"unsafe"

	"twinlock/api"
	"twinlock/path"
)

// The chapter's numbers.
const (
	maxMounts = 4
	maxMount  = 8
	maxKey    = 24
	maxPath   = 33
)

// huge is how many bytes the longest texts have.
const huge = 100_000

// isPath, isName and isKey are the chapter's words. They go by runes, so that each byte is made a rune ahead.
var (
	isPath = regexp.MustCompile(`\A([a-z]{1,8})/([^\x00/]{1,24})\z`)
	isName = regexp.MustCompile(`\A[a-z]{1,8}\z`)
	isKey  = regexp.MustCompile(`\A[^\x00/]{1,24}\z`)
)

// runes is a text with a rune of each byte.
func runes(s string) string {
	var b strings.Builder
	for i := range len(s) {
		b.WriteRune(rune(s[i]))
	}
	return b.String()
}

// bytesOf is a text whose runes were made so.
func bytesOf(s string) string {
	var b []byte
	for _, r := range s {
		b = append(b, byte(r))
	}
	return string(b)
}

// cutOf is what Cut must tell.
func cutOf(p string) (mount, key string, ok bool) {
	m := isPath.FindStringSubmatch(runes(p))
	if m == nil {
		return "", "", false
	}
	return m[1], bytesOf(m[2]), true
}

// walk is what Cut must tell, too: byte by byte, without any expression.
func walk(p string) (mount, key string, ok bool) {
	slashes := 0
	for i := range len(p) {
		switch c := p[i]; {
		case c == 0:
			return "", "", false
		case c == '/':
			slashes++
		case slashes == 0 && strings.IndexByte("abcdefghijklmnopqrstuvwxyz", c) < 0:
			return "", "", false
		case slashes == 0:
			mount += string([]byte{c})
		case slashes == 1:
			key += string([]byte{c})
		}
		if slashes > 1 || len(mount) > 8 || len(key) > 24 {
			return "", "", false
		}
	}
	if mount == "" || key == "" {
		return "", "", false
	}
	return mount, key, true
}

// joinOf is what Join must tell.
func joinOf(mount, key string) (string, bool) {
	if isName.MatchString(runes(mount)) && isKey.MatchString(runes(key)) {
		return mount + "/" + key, true
	}
	return "", false
}

// rightOf is what Right must tell.
func rightOf(l []api.Mount) bool {
	count := map[string]int{}
	for _, m := range l {
		if !isName.MatchString(runes(m.Name)) {
			return false
		}
		count[m.Name]++
	}
	return len(count) == len(l) && len(l) > 0 && len(l) <= maxMounts
}

// sameOf is what Same must tell.
func sameOf(a, b []api.Mount) bool {
	if len(a) != len(b) {
		return false
	}
	for i := range a {
		if a[i].Name != b[i].Name || a[i].Ship != b[i].Ship {
			return false
		}
	}
	return true
}

// ofOf is what Of must tell.
func ofOf(l []api.Mount, p string) (m api.Mount, e api.Errno) {
	name, _, ok := cutOf(p)
	if !ok {
		return m, api.ErrKey
	}
	e = api.ErrMount
	for i := len(l) - 1; i >= 0; i-- {
		if l[i].Name == name {
			m, e = l[i], api.OK
		}
	}
	return m, e
}

// cuts asks Cut, and Join of what it tells.
func cuts(t *testing.T, p string) {
	t.Helper()
	mount, key, ok := cutOf(p)
	cutsTo(t, p, mount, key, ok)
}

// cutsTo asks whether Cut tells that, and Join of it the path.
func cutsTo(t *testing.T, p, mount, key string, ok bool) {
	t.Helper()
	if m, k, is := path.Cut(p); m != mount || k != key || is != ok {
		t.Fatalf("Cut(%.99q) of %d bytes: %q, %q, %v, not %q, %q, %v", p, len(p), m, k, is, mount, key, ok)
	}
	if !ok {
		return
	}
	if s, is := path.Join(mount, key); s != p || !is {
		t.Fatalf("Join(%q, %q): %q, %v, not %q", mount, key, s, is, p)
	}
}

// joins asks Join, and Cut of what it tells.
func joins(t *testing.T, mount, key string) {
	t.Helper()
	want, ok := joinOf(mount, key)
	s, is := path.Join(mount, key)
	if s != want || is != ok {
		t.Fatalf("Join(%.99q, %.99q): %q, %v, not %q, %v", mount, key, s, is, want, ok)
	}
	if !ok {
		return
	}
	if m, k, is := path.Cut(s); m != mount || k != key || !is {
		t.Fatalf("Cut(%q): %q, %q, %v, not %q, %q", s, m, k, is, mount, key)
	}
}

// bothTo asks whether Join tells a path of both, or none, and Cut says the same of them with a slash between.
func bothTo(t *testing.T, mount, key string, ok bool) {
	t.Helper()
	p := mount + "/" + key
	s, is := path.Join(mount, key)
	if !ok {
		cutsTo(t, p, "", "", false)
		p = ""
	} else {
		cutsTo(t, p, mount, key, true)
	}
	if s != p || is != ok {
		t.Fatalf("Join(%q, %q): %q, %v", mount, key, s, is)
	}
}

// spare is what stands in a list's spare room.
var spare = api.Mount{Name: "spare", Ship: true}

// roomy is a list of the same mounts that has spare room, and all its room.
func roomy(l []api.Mount) (same, room []api.Mount) {
	room = append(slices.Clone(l), spare, spare)
	return room[:len(l)], room
}

// asks lets a call be asked with a list that has spare room, and looks whether the call changed it.
func asks(t *testing.T, l []api.Mount, call func(l []api.Mount)) {
	t.Helper()
	own, room := roomy(l)
	call(own)
	if !slices.Equal(room, append(slices.Clone(l), spare, spare)) {
		t.Fatalf("%v became %v", l, room)
	}
}

// rights asks Right.
func rights(t *testing.T, l []api.Mount) {
	t.Helper()
	asks(t, l, func(l []api.Mount) {
		if got, want := path.Right(l), rightOf(l); got != want {
			t.Fatalf("Right(%.200q): %v, not %v", show(l), got, want)
		}
	})
}

// sames asks Same, both ways round.
func sames(t *testing.T, a, b []api.Mount) {
	t.Helper()
	asks(t, a, func(a []api.Mount) {
		asks(t, b, func(b []api.Mount) {
			if got, want := path.Same(a, b), sameOf(a, b); got != want || path.Same(b, a) != want {
				t.Fatalf("Same(%.200q, %.200q): %v, not %v", show(a), show(b), got, want)
			}
		})
	})
}

// finds asks Of and Ships.
func finds(t *testing.T, l []api.Mount, p string) {
	t.Helper()
	m, e := ofOf(l, p)
	findsTo(t, l, p, m, e)
}

// findsTo asks whether Of tells that, and Ships what goes with it.
func findsTo(t *testing.T, l []api.Mount, p string, want api.Mount, e api.Errno) {
	t.Helper()
	asks(t, l, func(l []api.Mount) {
		if m, f := path.Of(l, p); m != want || f != e {
			t.Fatalf("Of(%.200q, %.99q): %v, %d, not %v, %d", show(l), p, m, f, want, e)
		}
		if got := path.Ships(l, p); got != (e == api.OK && want.Ship) {
			t.Fatalf("Ships(%.200q, %.99q): %v", show(l), p, got)
		}
	})
}

// show is mounts as words: each name, with a ! behind it, if it is shipped.
func show(l []api.Mount) []string {
	var words []string
	for _, m := range l {
		if m.Ship {
			words = append(words, m.Name+"!")
		} else {
			words = append(words, m.Name)
		}
	}
	return words
}

// mounts are what such words say.
func mounts(words ...string) []api.Mount {
	var l []api.Mount
	for _, w := range words {
		name, ship := strings.CutSuffix(w, "!")
		l = append(l, api.Mount{Name: name, Ship: ship})
	}
	return l
}

// textOn is a text whose bytes are those of b, and change with them.
func textOn(b []byte) string { return unsafe.String(unsafe.SliceData(b), len(b)) }

// bytewise are a text, and the text with each byte of 0 to 255 at its beginning, in its middle, at its end.
func bytewise(s string) []string {
	l := []string{s}
	for c := range 256 {
		for _, i := range []int{0, len(s) / 2, len(s) - 1} {
			b := []byte(s)
			b[i] = byte(c)
			l = append(l, string(b))
		}
	}
	return l
}

// letters is a text of n bytes of a to z, and keyed one of n bytes of which none is 0 or /.
func letters(n int) string { return strings.Repeat("kqzamb", n/6+1)[:n] }

func keyed(n int) string { return strings.Repeat("k\xff.A \x01z", n/7+1)[:n] }

// names are texts that are a mount's name, or nearly so.
func names() []string {
	l := []string{"", "A", "Z", "App", "apP", "a.b", "a b", " ab", "ab ", "a-", "a_b", "a1", "1a", "\xc3\xa4", "\xff", "a\n", "\na", "app/", "/app", "a/b"}
	for n := range maxMount + 3 {
		l = append(l, letters(n), strings.Repeat("a", n), strings.Repeat("z", n))
	}
	for _, n := range []int{1, 3, maxMount, maxMount + 1} {
		l = append(l, bytewise(letters(n))...)
	}
	return append(l, strings.Repeat("\xc3\xa4", 4), letters(255), letters(256), letters(256+1), letters(256+maxMount), letters(huge))
}

// keys are texts that are a key, or nearly so.
func keys() []string {
	l := []string{"", "/", "//", "\x00", "a/b", "/a", "a/", "\n", "a\n", " ", "..", "\xff\xfe", "\xc3\x28", "a\x00b", "\x00a", "a\x00"}
	for n := range maxKey + 4 {
		l = append(l, letters(n), keyed(n), strings.Repeat("\xff", n), strings.Repeat("/", n), strings.Repeat("\x00", n))
	}
	for _, n := range []int{1, 3, maxKey, maxKey + 1} {
		l = append(l, bytewise(keyed(n))...)
	}
	// Of as many runes, or half as many bytes, as a key may have bytes.
	l = append(l, strings.Repeat("\xc3\xa4", maxKey/2), strings.Repeat("\xc3\xa4", maxKey/2)+"x", strings.Repeat("\xc3\xa4", maxKey))
	return append(l, letters(256), letters(256+1), letters(256+maxKey), keyed(huge))
}

// some is a text of n bytes of an alphabet's.
func some(r *rand.Rand, n int, alphabet string) string {
	b := make([]byte, n)
	for i := range b {
		b[i] = alphabet[r.Intn(len(alphabet))]
	}
	return string(b)
}

// short are all texts of up to n bytes of an alphabet's.
func short(n int, alphabet string) []string {
	all := []string{""}
	last := all
	for range n {
		var next []string
		for _, s := range last {
			for i := range len(alphabet) {
				next = append(next, s+alphabet[i:i+1])
			}
		}
		all, last = append(all, next...), next
	}
	return all
}
