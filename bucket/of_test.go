package bucket_test

import (
	"math/rand"
	"slices"
	"strconv"
	"strings"
	"testing"

	"twinlock/api"
	"twinlock/bucket"
	"twinlock/sha"
)

func TestLimits(t *testing.T) {
	if api.Buckets != buckets || api.MaxKeys != maxKeys || api.MaxValue != maxValue || api.MaxMount+1+api.MaxKey != maxPath {
		t.Fatal("the limits")
	}
}

// The chapter's examples, call by call.
func TestExamples(t *testing.T) {
	if s, e := bucket.Page(3, nil); s != "\x00" || e != api.OK {
		t.Errorf("Page(3, none): %q, %d", s, e)
	}
	if l, e := bucket.Read(3, "\x00"); len(l) != 0 || e != api.OK {
		t.Errorf("Read(3, 0): %q, %d", l, e)
	}
	app := []api.Pair{{Path: "app/a", Value: "1"}}
	i := bucket.Of("app/a")
	if s, e := bucket.Page(i, app); s != "\x01\x05app/a\x011" || e != api.OK {
		t.Errorf("Page(%d, app/a 1): %q, %d", i, s, e)
	}
	if s, e := bucket.Page((i+1)%16, app); s != "" || e != api.ErrArg {
		t.Errorf("Page(%d, app/a 1): %q, %d", (i+1)%16, s, e)
	}
	if s, e := bucket.Page(16, nil); s != "" || e != api.ErrArg {
		t.Errorf("Page(16, none): %q, %d", s, e)
	}
	if l, e := bucket.Read(-1, "\x00"); len(l) != 0 || e != api.ErrArg {
		t.Errorf("Read(-1, 0): %q, %d", l, e)
	}
	if l, e := bucket.Read(0, ""); len(l) != 0 || e != api.ErrShort {
		t.Errorf("Read(0, none): %q, %d", l, e)
	}
}

// Texts of every bucket, some paths and some not, whose hashes were reckoned by another program.
func TestP141Known(t *testing.T) {
	for i, s := range []string{"app/5", "app/20", "app/13", "app/12", "app/1", "app/37", "app/16", "app/14", "app/3", "app/6", "app/32", "app/4", "app/2", "app/18", "app/9", "app/11"} {
		if n := bucket.Of(s); n != i {
			t.Errorf("Of(%s): %d, not %d", s, n, i)
		}
	}
	for i, s := range []string{"39", "9", "8", "13", "3", "23", "1", "7", "14", "19", "38", "16", "24", "2", "5", "20"} {
		if n := bucket.Of(s); n != i {
			t.Errorf("Of(%s): %d, not %d", s, n, i)
		}
	}
	for s, i := range map[string]int{
		"":                             0xe,
		"\x00":                         0x6,
		"\xff\xff":                     0xc,
		"/":                            0x8,
		"App/x":                        0x6,
		"app/a":                        0x3,
		"app/b":                        0x4,
		"app/c":                        0x0,
		"app/d":                        0x9,
		"ops/k":                        0x6,
		strings.Repeat("a", 100_000):   0x6,
		strings.Repeat("a", 1_000_000): 0xc,
		"abc":                          0xb,
	} {
		if n := bucket.Of(s); n != i {
			t.Errorf("Of(%.99q): %d, not %d", s, n, i)
		}
	}
}

// It is the upper four bits of the hash's first byte, and no others: among texts there are all bytes.
func TestP141Bits(t *testing.T) {
	var seen [256]bool
	left := 256
	for n := 0; left > 0; n++ {
		s := strconv.Itoa(n)
		h := sha.Sum(s)
		i := of(t, s)
		if byte(i)<<4 != h[0]&0xf0 {
			t.Fatalf("Of(%s): %d, of the hash %s", s, i, sha.Digits(h))
		}
		if !seen[h[0]] {
			seen[h[0]] = true
			left--
		}
	}
}

// Texts of all lengths to beyond some blocks, of every byte, paths and none.
func TestP141Of(t *testing.T) {
	for n := range 400 {
		of(t, letters(n))
		of(t, valued(n))
		of(t, strings.Repeat("\xff", n))
	}
	for c := range 256 {
		for n := range 5 {
			of(t, strings.Repeat(string([]byte{byte(c)}), n))
		}
	}
	for _, l := range [][]string{goodPaths(), noPaths(), {valued(huge), strings.Repeat("app/a", huge)}} {
		for _, s := range l {
			of(t, s)
			of(t, s+"\x00")
			of(t, " "+s)
			of(t, strings.ToUpper(s))
		}
	}
	count := make([]int, buckets)
	for i := range 10_000 {
		count[of(t, "app/"+strconv.Itoa(i))]++
	}
	if slices.Min(count) < 100 {
		t.Errorf("of the buckets: %v", count)
	}
	// It is told again.
	for range 3 {
		of(t, "app/a")
		of(t, "")
	}
}

func TestP141OfChance(t *testing.T) {
	r := rand.New(rand.NewSource(141))
	for range 20_000 {
		b := make([]byte, r.Intn(100))
		r.Read(b)
		of(t, string(b))
	}
}

// No pair may be; of one all hangs on its path and its value.
func TestP141MayOne(t *testing.T) {
	maysTo(t, true)
	if !bucket.May(nil) || !bucket.May([]api.Pair{}) {
		t.Error("no pairs may not be")
	}
	for _, p := range goodPaths() {
		for n := range maxValue + 1 {
			maysTo(t, true, pair(p, valued(n)))
		}
		for _, n := range []int{33, 34, 64, 255, 256, 256 + 32, 1 << 16, huge} {
			maysTo(t, false, pair(p, valued(n)))
		}
	}
	for _, p := range noPaths() {
		for _, n := range []int{0, 1, 32, 33} {
			maysTo(t, false, pair(p, valued(n)))
		}
	}
	// Any byte in a key but two, any in a value; in a name letters alone.
	for c := range 256 {
		s := string([]byte{byte(c)})
		maysTo(t, c != 0 && c != '/', pair("app/"+s, s))
		maysTo(t, c != 0 && c != '/', pair("app/a"+s+"a", s+s))
		maysTo(t, c >= 'a' && c <= 'z', pair(s+"/a", ""))
		maysTo(t, c >= 'a' && c <= 'z', pair("a"+s+"/a", ""))
	}
}

// Any number of pairs may be, more than a page has, too.
func TestP141MayMany(t *testing.T) {
	for _, n := range []int{0, 1, 2, 3, 15, 16, 17, 47, 48, 49, 50, 96, 255, 256, 256 + 1, 1000, 1 << 16, huge} {
		maysTo(t, true, many(n)...)
	}
	var l []api.Pair
	for i, p := range goodPaths() {
		l = append(l, pair(p, valued(i)))
	}
	maysTo(t, true, l...)
	for i := range l {
		for j := i; j <= len(l); j++ {
			maysTo(t, true, l[i:j]...)
		}
	}
}

// sizes are the numbers of pairs among which a wrong one is looked for.
var sizes = []int{2, 3, 7, 47, 48, 49, 60}

// One path that is none, first, in the middle and last; one value that is too long.
func TestP141MayWrong(t *testing.T) {
	for _, n := range sizes {
		l := many(n)
		for i := range l {
			was := l[i]
			for _, m := range []int{0, 31, 32} {
				l[i].Value = valued(m)
				maysTo(t, true, l...)
			}
			for _, m := range []int{33, 34, 256, 256 + 32} {
				l[i].Value = valued(m)
				maysTo(t, false, l...)
			}
			// These stand where they belong in the row, and are none.
			for _, p := range []string{was.Path + "/", was.Path + "\x00", was.Path + keyed(24), was.Path[:5] + "/" + was.Path[6:]} {
				l[i] = pair(p, "1")
				maysTo(t, false, l...)
			}
			for _, p := range noPaths()[:30] {
				l[i] = pair(p, "1")
				maysTo(t, false, l...)
			}
			l[i] = was
		}
		maysTo(t, true, l...)
		// Texts below all paths and above all paths, which are none.
		for _, p := range []string{"", "/", "A/x", "a-/x", "app", "app/"} {
			maysTo(t, false, append([]api.Pair{pair(p, "")}, l...)...)
		}
		for _, p := range []string{"z", "zz", "zz/", "z{/x", "zzzzzzzzz/x", "\xff", "\xff/x", "{/x"} {
			maysTo(t, false, append(slices.Clone(l), pair(p, ""))...)
		}
	}
}

// Two paths that are the same, or fall: first, in the middle, last, side by side and not.
func TestP141MayRow(t *testing.T) {
	for _, n := range sizes {
		l := many(n)
		for i := range n - 1 {
			for _, j := range []int{i + 1, n - 1} {
				l[i], l[j] = l[j], l[i]
				maysTo(t, false, l...)
				l[i], l[j] = l[j], l[i]
			}
			was := l[i+1]
			l[i+1] = l[i]
			maysTo(t, false, l...)
			// With another value it is the same path.
			l[i+1].Value = "other"
			maysTo(t, false, l...)
			l[i+1] = was
			// One is put in twice, so that all else rises.
			maysTo(t, false, slices.Insert(slices.Clone(l), i, l[i])...)
		}
		maysTo(t, true, l...)
		slices.Reverse(l)
		maysTo(t, false, l...)
		maysTo(t, false, append(many(n), many(1)...)...)
		maysTo(t, false, append(many(1), many(n)...)...)
	}
	maysTo(t, false, slices.Repeat(many(1), 2)...)
	maysTo(t, false, slices.Repeat(many(1), huge)...)
	// By paths, not by values; and two rows, of which each one rises.
	maysTo(t, true, pair("app/a", "9"), pair("app/b", "1"), pair("app/c", ""))
	maysTo(t, false, pair("app/b", "1"), pair("app/a", "9"))
	maysTo(t, false, append(many(20), many(40)...)...)
	maysTo(t, false, append(many(40)[20:], many(20)...)...)
}

// The row is bytewise, and what begins another one is less: each two of some paths.
func TestP141MayTwo(t *testing.T) {
	l := goodPaths()
	for i, p := range l {
		for j, q := range l {
			maysTo(t, i < j, pair(p, "1"), pair(q, ""))
			maysTo(t, i < j, pair(p, ""), pair(q, valued(32)))
		}
	}
	for _, x := range [][2]string{
		{"app/a", "app/aa"}, {"app/a", "app/a\x01"}, {"app/aa", "app/ab"}, {"app/aa", "app/b"},
		{"app/A", "app/a"}, {"app/B", "app/a"}, {"app/Z", "app/a"}, {"app/10", "app/9"}, {"app/-", "app/0"},
		{"app/z", "app/\x80"}, {"app/\x7f", "app/\x80"}, {"app/\x7f", "app/\xff"}, {"app/\x01", "app/\xff"},
		{"app/\xff", "app/\xff\x01"}, {"app/\xff", "apps/a"}, {"ap/z", "app/a"}, {"app/a", "apps/\x01"}, {"app/z", "ops/a"},
		{"app/\xc3\x28", "app/\xc3\xa4"}, {"app/\xc3\xa4", "app/\xe2\x82\xac"}, {"app/\xed\xa0\x80", "app/\xee\x80\x80"}, {"app/\xef\xbf\xbd", "app/\xf0\x90\x80\x80"},
		{"app/\xef\xbf\xbd", "app/\xff"},
	} {
		maysTo(t, true, pair(x[0], ""), pair(x[1], ""))
		maysTo(t, false, pair(x[1], ""), pair(x[0], ""))
		maysTo(t, false, pair(x[0], ""), pair(x[0], ""))
	}
	for c := range 256 {
		for d := range 256 {
			p, q := "app/"+string([]byte{byte(c)}), "app/"+string([]byte{byte(d)})
			maysTo(t, isPath(p) && isPath(q) && c < d, pair(p, ""), pair(q, ""))
		}
	}
}

// somePairs are pairs out of which lists are made: right and wrong ones.
func somePairs() []api.Pair {
	return []api.Pair{pair("app/a", "1"), pair("app/a", ""), pair("app/aa", valued(32)), pair("app/b", ""), pair("apps/a", "2"), pair("app/b", valued(33)), pair("app", "1")}
}

// allLists are all lists of up to n pairs out of some, told one by one.
func allLists(n int, some []api.Pair, tell func(l []api.Pair)) {
	var grow func(l []api.Pair)
	grow = func(l []api.Pair) {
		tell(slices.Clone(l))
		if len(l) == n {
			return
		}
		for _, x := range some {
			grow(append(l, x))
		}
	}
	grow(make([]api.Pair, 0, n))
}

func TestP141MayAll(t *testing.T) {
	may, mayNot := 0, 0
	allLists(5, somePairs(), func(l []api.Pair) {
		if mays(t, l...) {
			may++
		} else {
			mayNot++
		}
	})
	if may < 10 || mayNot < 10_000 {
		t.Errorf("%d lists may be, %d may not", may, mayNot)
	}
}

// Lists by chance: most of them nearly right.
func TestP141MayChance(t *testing.T) {
	count := map[bool]int{}
	for seed := range int64(4000) {
		r := rand.New(rand.NewSource(seed))
		count[mays(t, chancePairs(r)...)]++
	}
	if count[true] < 500 || count[false] < 500 {
		t.Errorf("%v", count)
	}
}

// chancePairs are pairs by chance, in their row, of which now and then something is wrong.
func chancePairs(r *rand.Rand) []api.Pair {
	l := many(r.Intn(70))
	for i := range l {
		if r.Intn(3) == 0 {
			l[i].Path += some(r, r.Intn(14), keyed(7))
		}
		l[i].Value = valued(r.Intn(33))
	}
	if len(l) == 0 || r.Intn(2) == 0 {
		return l
	}
	for range 1 + r.Intn(2) {
		i, j := r.Intn(len(l)), r.Intn(len(l))
		switch r.Intn(5) {
		case 0:
			l[i].Path = one(r, noPaths())
		case 1:
			l[i].Value = valued(33 + r.Intn(3))
		case 2:
			l[i], l[j] = l[j], l[i]
		case 3:
			l[i].Path = l[j].Path
		case 4:
			l[i].Path = one(r, goodPaths())
		}
	}
	return l
}
