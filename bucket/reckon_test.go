package bucket_test

import (
	"crypto/sha256"
	"encoding/binary"
	"encoding/hex"
	"fmt"
	"math/rand"
	"slices"
	"strconv"
	"strings"
	"testing"
	"unsafe"

	"twinlock/api"
	"twinlock/bucket"
)

// The document's numbers.
const (
	buckets  = 16
	maxKeys  = 48
	maxValue = 32
	maxPath  = 33
)

// huge is how many bytes the longest texts have, or pairs the longest lists.
const huge = 100_000

// bucketOf is a text's bucket: the first one of its hash's digits.
func bucketOf(s string) int {
	h := sha256.Sum256([]byte(s))
	return strings.IndexByte("0123456789abcdef", hex.EncodeToString(h[:1])[0])
}

// isBucket says whether a number is a bucket.
func isBucket(i int) bool { return i >= 0 && i <= 15 }

// isPath says whether a text is a path.
func isPath(p string) bool {
	l := strings.Split(p, "/")
	if len(l) != 2 || len(l[0]) < 1 || len(l[0]) > 8 || len(l[1]) < 1 || len(l[1]) > 24 {
		return false
	}
	return strings.Trim(l[0], "abcdefghijklmnopqrstuvwxyz") == "" && strings.IndexByte(l[1], 0) < 0
}

// below says whether a text comes ahead of another one: at the first byte that differs, or as its beginning.
func below(a, b string) bool {
	for i := 0; i < len(a) && i < len(b); i++ {
		if a[i] != b[i] {
			return a[i] < b[i]
		}
	}
	return len(a) < len(b)
}

// mayOf is what May must tell.
func mayOf(l []api.Pair) bool {
	may := true
	for i, x := range l {
		may = may && isPath(x.Path) && len(x.Value) <= maxValue
		if i > 0 {
			may = may && below(l[i-1].Path, x.Path)
		}
	}
	return may
}

// partOf is what Part must tell: those of other buckets are taken away.
func partOf(l []api.Pair, i int) []api.Pair {
	return slices.DeleteFunc(slices.Clone(l), func(x api.Pair) bool { return bucketOf(x.Path) != i })
}

// number and text are bytes as pack's chapter says.
func number(n uint64) string { return string(binary.AppendUvarint(nil, n)) }

func text(s string) string { return number(uint64(len(s))) + s }

// bytesOf is pairs as a page has them, whatever they are.
func bytesOf(l ...api.Pair) string {
	var b strings.Builder
	b.WriteString(number(uint64(len(l))))
	for _, x := range l {
		b.WriteString(text(x.Path) + text(x.Value))
	}
	return b.String()
}

// pageOf is what Page must tell.
func pageOf(i int, l []api.Pair) (string, api.Errno) {
	switch {
	case !isBucket(i), !mayOf(l), len(partOf(l, i)) != len(l):
		return "", api.ErrArg
	case len(l) > maxKeys:
		return "", api.ErrLong
	}
	return bytesOf(l...), api.OK
}

// source is what was not read of bytes, and the first failure.
type source struct {
	rest string
	e    api.Errno
}

// fails keeps the first failure.
func (s *source) fails(e api.Errno) {
	if s.e == api.OK {
		s.e = e
	}
}

// number is the number that begins the rest.
func (s *source) number(most uint64) uint64 {
	if s.e != api.OK {
		return 0
	}
	end := strings.IndexFunc(s.rest, func(r rune) bool { return r < 128 })
	if end < 0 && len(s.rest) < 10 {
		s.fails(api.ErrShort)
		return 0
	}
	b := s.rest[:end+1]
	n, _ := binary.Uvarint([]byte(b))
	// In another way than its own no number is written.
	if end < 0 || number(n) != b || n > most {
		s.fails(api.ErrForm)
		return 0
	}
	s.rest = s.rest[end+1:]
	return n
}

// text is the text that begins the rest.
func (s *source) text(most uint64) string {
	n := s.number(most)
	if uint64(len(s.rest)) < n {
		s.fails(api.ErrShort)
	}
	if s.e != api.OK {
		return ""
	}
	b := s.rest[:n]
	s.rest = s.rest[n:]
	return b
}

// readOf is what Read must tell.
func readOf(i int, b string) ([]api.Pair, api.Errno) {
	s := &source{rest: b}
	if !isBucket(i) {
		s.fails(api.ErrArg)
	}
	var l []api.Pair
	for range s.number(48) {
		p := s.text(maxPath)
		l = append(l, api.Pair{Path: p, Value: s.text(maxValue)})
	}
	if s.rest != "" {
		s.fails(api.ErrForm)
	}
	if _, e := pageOf(i, l); e != api.OK {
		s.fails(api.ErrForm)
	}
	if s.e != api.OK {
		return nil, s.e
	}
	return l, api.OK
}

// spare stands in the spare room of lists.
var spare = api.Pair{Path: "spare/x", Value: "spare"}

// show is a list as words: of a long one its beginning.
func show(l []api.Pair) string {
	return strconv.Itoa(len(l)) + " pairs " + fmt.Sprintf("%.40q", l[:min(len(l), maxKeys+2)])
}

// withRoom lets a call be asked with pairs that have spare room, and looks whether the call changed them.
func withRoom(t *testing.T, l []api.Pair, call func(l []api.Pair)) {
	t.Helper()
	want := append(slices.Clone(l), spare, spare)
	room := slices.Clone(want)
	call(room[:len(l)])
	if !slices.Equal(room, want) {
		t.Fatalf("%s became %s", show(l), show(room))
	}
}

// of asks Of.
func of(t *testing.T, s string) int {
	t.Helper()
	i := bucket.Of(s)
	if i != bucketOf(s) || !isBucket(i) {
		t.Fatalf("Of(%.99q) of %d bytes: %d, not %d", s, len(s), i, bucketOf(s))
	}
	return i
}

// mays asks May.
func mays(t *testing.T, l ...api.Pair) bool {
	t.Helper()
	want := mayOf(l)
	maysTo(t, want, l...)
	return want
}

// maysTo asks whether May tells that.
func maysTo(t *testing.T, want bool, l ...api.Pair) {
	t.Helper()
	withRoom(t, l, func(l []api.Pair) {
		if bucket.May(l) != want {
			t.Fatalf("May(%s): %v", show(l), !want)
		}
	})
}

// parts asks Part.
func parts(t *testing.T, l []api.Pair, i int) []api.Pair {
	t.Helper()
	want := partOf(l, i)
	partsTo(t, want, l, i)
	return want
}

// partsTo asks whether Part tells that, and whose memory it is.
func partsTo(t *testing.T, want, l []api.Pair, i int) {
	t.Helper()
	withRoom(t, l, func(l []api.Pair) {
		part, twin := bucket.Part(l, i), bucket.Part(l, i)
		if !slices.Equal(part, want) {
			t.Fatalf("Part(%s, %d): %s, not %s", show(l), i, show(part), show(want))
		}
		// Whatever becomes of one answer, what was handed in stays, and so does the other answer.
		spoil(part)
		if !slices.Equal(twin, want) {
			t.Fatalf("Part(%s, %d): two answers have one memory", show(l), i)
		}
	})
}

// spoil writes into a list, its spare room too.
func spoil(l []api.Pair) {
	l = l[:cap(l)]
	for i := range l {
		l[i] = api.Pair{Path: "spoilt", Value: "spoilt"}
	}
}

// pages asks Page.
func pages(t *testing.T, i int, l ...api.Pair) api.Errno {
	t.Helper()
	_, e := pageOf(i, l)
	pagesTo(t, e, i, l...)
	return e
}

// pagesTo asks whether Page tells that error, or the page; and whether Read of that are the pairs.
func pagesTo(t *testing.T, want api.Errno, i int, l ...api.Pair) {
	t.Helper()
	withRoom(t, l, func(l []api.Pair) {
		s, e := bucket.Page(i, l)
		if e != want {
			t.Fatalf("Page(%d, %s): %d, not %d", i, show(l), e, want)
		}
		if want != api.OK {
			if s != "" {
				t.Fatalf("Page(%d, %s): %q beside %d", i, show(l), s, e)
			}
			return
		}
		if s != bytesOf(l...) {
			t.Fatalf("Page(%d, %s): %x, not %x", i, show(l), s, bytesOf(l...))
		}
		if read, e := bucket.Read(i, s); e != api.OK || !slices.Equal(read, l) {
			t.Fatalf("Read(%d, %x): %s, %d, not %s", i, s, show(read), e, show(l))
		}
	})
}

// reads asks Read.
func reads(t *testing.T, i int, s string) api.Errno {
	t.Helper()
	want, e := readOf(i, s)
	readsTo(t, i, s, want, e)
	return e
}

// unread asks whether Read tells an error, and no pairs.
func unread(t *testing.T, want api.Errno, i int, s string) {
	t.Helper()
	if want == api.OK {
		t.Fatal("no error")
	}
	readsTo(t, i, s, nil, want)
}

// readsTo asks whether Read tells that, and whether what is read has just these bytes as its page.
func readsTo(t *testing.T, i int, s string, want []api.Pair, e api.Errno) {
	t.Helper()
	l, f := bucket.Read(i, s)
	if f != e || !slices.Equal(l, want) {
		t.Fatalf("Read(%d, %.300x) of %d bytes: %s, %d, not %s, %d", i, s, len(s), show(l), f, show(want), e)
	}
	if e != api.OK {
		return
	}
	if page, e := bucket.Page(i, l); page != s || e != api.OK {
		t.Fatalf("Read(%d, %x): %s, whose page is %x, %d", i, s, show(l), page, e)
	}
}

// pair is a pair in short.
func pair(p, v string) api.Pair { return api.Pair{Path: p, Value: v} }

// letters is a text of n bytes of a to z, keyed one of n bytes of which none is 0 or /, valued one of odd bytes.
func letters(n int) string { return strings.Repeat("kqzamb", n/6+1)[:n] }

func keyed(n int) string { return strings.Repeat("k\xff.A \x01z", n/7+1)[:n] }

func valued(n int) string { return strings.Repeat("\x00\xffv/\x80\x01\x02", n/7+1)[:n] }

// longest is a path of as many bytes as there may be.
func longest() string { return letters(8) + "/" + keyed(24) }

// noPaths are texts that are no path, some of them nearly one.
func noPaths() []string {
	return []string{"", "/", "//", "a", "app", "app/", "/db", "/app/db", "app//", "app//x", "app/a/b", "app/x/", "App/x", "apP/x", "a1/x", "app2/x", "a-b/x", " app/x", "app /x", "app/\x00", "app/a\x00", "\x00app/x", "app\x00/x", "\xff/x", "\xc3\xa4/x", "ninechars/x", letters(9) + "/" + keyed(23), "app/" + keyed(25), letters(8) + "/" + keyed(25), letters(33), strings.Repeat("/", 33), "app/" + letters(huge), letters(huge) + "/x", letters(huge)}
}

// goodPaths are paths, rising; many begin with others, or come side by side.
func goodPaths() []string {
	return []string{"a/" + keyed(24), "a/x", "ap/a", "app/\x01", "app/ ", "app/.", "app/0", "app/A", "app/a", "app/a\x01", "app/a2", "app/aa", "app/b", "app/db", "app/\x7f", "app/\x80", "app/\xc3\x28", "app/\xc3\xa4", "app/\xff", "app/\xff\xff", "apps/a", longest(), letters(8) + "/x", "ops/b", "opsa/b", "web/x", "z/z", strings.Repeat("z", 8) + "/" + strings.Repeat("\xff", 24)}
}

// numbers are bucket numbers, right ones and wrong ones.
func numbers() []int {
	l := []int{-1 << 63, -1<<63 + 1, -1 << 32, -1 << 31, -256, -241, -16, -15, -2}
	for i := -1; i <= buckets; i++ {
		l = append(l, i)
	}
	return append(l, 17, 31, 32, 64, 255, 256, 256+3, 1<<16, 1<<32, 1<<32+3, 1<<63-1)
}

// many are n pairs that may be, of all buckets, the values of each length.
func many(n int) (l []api.Pair) {
	for i := range n {
		digits := strconv.Itoa(1_000_000 + i)
		l = append(l, pair("app/"+digits, valued(i*5%(maxValue+1))))
	}
	return l
}

// inOne are n pairs of one bucket that may be.
func inOne(i, n int) []api.Pair {
	l := partOf(many(n*20+400), i)
	return l[:n]
}

// outOf is a path of another bucket that stands between a path of app/1.. and the next one of these.
func outOf(i int, p string) string {
	for c := byte(1); ; c++ {
		if q := p + string([]byte{c}); bucketOf(q) != i {
			return q
		}
	}
}

// textOn is a text whose bytes are those of b, and change with them.
func textOn(b []byte) string { return unsafe.String(unsafe.SliceData(b), len(b)) }

// some is a text of n bytes of an alphabet's.
func some(r *rand.Rand, n int, alphabet string) string {
	b := make([]byte, n)
	for i := range b {
		b[i] = alphabet[r.Intn(len(alphabet))]
	}
	return string(b)
}

// one of a list's, by chance.
func one[T any](r *rand.Rand, l []T) T { return l[r.Intn(len(l))] }

// short are all texts of up to n bytes of an alphabet's, told one by one.
func short(n int, alphabet string, tell func(s string)) {
	var grow func(b []byte)
	grow = func(b []byte) {
		tell(string(b))
		if len(b) == n {
			return
		}
		for i := range len(alphabet) {
			grow(append(b, alphabet[i]))
		}
	}
	grow(make([]byte, 0, n))
}
