package bucket_test

import (
	"math/rand"
	"slices"
	"strings"
	"testing"

	"twinlock/api"
	"twinlock/bucket"
)

// parted asks what follows of pairs: each is in one of the sixteen parts, in its row, and the parts have no others. It tells the parts.
func parted(t *testing.T, l []api.Pair) (all [buckets][]api.Pair) {
	t.Helper()
	var at [buckets]int
	count := 0
	for i := range buckets {
		all[i] = bucket.Part(l, i)
		count += len(all[i])
	}
	if count != len(l) {
		t.Fatalf("the parts of %s have %d", show(l), count)
	}
	for _, x := range l {
		i := bucket.Of(x.Path)
		if at[i] == len(all[i]) || all[i][at[i]] != x {
			t.Fatalf("%q is not where it belongs among the parts of %s", x, show(l))
		}
		at[i]++
	}
	return all
}

// back asks what follows of pairs that may be: each part has a page, if it is not too long, and Read of that, and of no other bucket's, is the part. It tells how many pages there are.
func back(t *testing.T, l []api.Pair) (count int) {
	t.Helper()
	for i, part := range parted(t, l) {
		if !bucket.May(part) {
			t.Fatalf("a part of pairs that may be may not: %s", show(part))
		}
		s, e := bucket.Page(i, part)
		if len(part) > maxKeys {
			if e != api.ErrLong {
				t.Fatalf("Page(%d, %s): %d", i, show(part), e)
			}
			continue
		}
		if e != api.OK {
			t.Fatalf("Page(%d, %s): %d", i, show(part), e)
		}
		readsTo(t, i, s, part, api.OK)
		if j := (i + 1 + count%15) % buckets; len(part) > 0 {
			unread(t, api.ErrForm, j, s)
		}
		count++
	}
	return count
}

// Lists of each number of pairs, to some thousand.
func TestP145Many(t *testing.T) {
	for n := range 200 {
		if back(t, many(n)) != buckets {
			t.Errorf("of %d pairs a part has no page", n)
		}
	}
	for _, n := range []int{700, 760, 800, 1000, 5000, huge} {
		back(t, many(n))
	}
}

// Pairs at the edges: all of one bucket; the longest ones; each that begins the next one.
func TestP145Edges(t *testing.T) {
	for i := range buckets {
		for _, n := range []int{1, 47, 48, 49, 300} {
			l := inOne(i, n)
			back(t, l)
			for at := range l {
				l[at].Value = valued(32)
			}
			back(t, l)
		}
	}
	var long, growing, good []api.Pair
	for c := 1; c < 256; c++ {
		if c != '/' {
			long = append(long, pair(letters(8)+"/"+keyed(23)+string([]byte{byte(c)}), valued(c%33)))
		}
	}
	for n := 1; n <= 24; n++ {
		growing = append(growing, pair("a/"+strings.Repeat("\xff", n), valued(n)))
	}
	for i, p := range goodPaths() {
		good = append(good, pair(p, valued(i)))
	}
	for _, l := range [][]api.Pair{nil, long, growing, good} {
		back(t, l)
	}
}

// Pairs by chance: right ones, and such as may not be, whose parts have all of them as well.
func TestP145Chance(t *testing.T) {
	right, wrong := 0, 0
	for seed := range int64(3000) {
		l := chancePairs(rand.New(rand.NewSource(seed)))
		if bucket.May(l) {
			back(t, l)
			right++
		} else {
			parted(t, l)
			wrong++
		}
	}
	if right < 500 || wrong < 500 {
		t.Errorf("%d lists are right, %d wrong", right, wrong)
	}
}

// Any list has parts, also of paths that are none, or the same.
func TestP145Any(t *testing.T) {
	allLists(4, append(somePairs(), pair("", ""), pair("app/5", "5")), func(l []api.Pair) { parted(t, l) })
	parted(t, make([]api.Pair, 1000))
	parted(t, slices.Repeat(many(7), 100))
	var l []api.Pair
	for _, p := range append(noPaths(), goodPaths()...) {
		l = append(l, pair(p, p), pair(p, ""))
	}
	parted(t, l)
}

// Unlike lists of one bucket have unlike pages; and like ones like pages.
func TestP145Unlike(t *testing.T) {
	told := map[string]int{}
	lists := 0
	all := inOne(11, 6)
	for _, v := range []string{"", "\x00", valued(32)} {
		all = append(all, pair(all[0].Path, v), pair(all[5].Path, v))
	}
	slices.SortFunc(all, func(x, y api.Pair) int { return strings.Compare(x.Path+"\x00"+x.Value, y.Path+"\x00"+y.Value) })
	for mask := range 1 << len(all) {
		var l []api.Pair
		for i, x := range all {
			if mask>>i&1 == 1 {
				l = append(l, x)
			}
		}
		if s, e := bucket.Page(11, l); e == api.OK {
			told[s]++
			lists++
		} else if mayOf(l) {
			t.Fatalf("Page(11, %s): %d", show(l), e)
		}
	}
	if len(told) != lists || lists < 300 {
		t.Errorf("%d lists have %d pages", lists, len(told))
	}
}

// whole asks of any bytes what follows: if they are read, their pairs have just these bytes as their page. It tells whether they are.
func whole(t *testing.T, i int, s string) bool {
	t.Helper()
	l, e := bucket.Read(i, s)
	if e != api.OK {
		if len(l) > 0 {
			t.Fatalf("Read(%d, %x): %s beside %d", i, s, show(l), e)
		}
		return false
	}
	if page, e := bucket.Page(i, l); page != s || e != api.OK {
		t.Fatalf("Read(%d, %x): %s, whose page is %x, %d", i, s, show(l), page, e)
	}
	if part := bucket.Part(l, i); !slices.Equal(part, l) {
		t.Fatalf("Read(%d, %x): %s, whose part is %s", i, s, show(l), show(part))
	}
	return true
}

// Of all short texts of a few bytes just those are read that a page is.
func TestP145Short(t *testing.T) {
	read := 0
	look := func(ahead, alphabet string, n int) {
		short(n, alphabet, func(s string) {
			s = ahead + s
			// Of a path of three bytes it is the bucket.
			i := bucketOf(s[min(len(s), 2):min(len(s), 5)])
			if reads(t, i, s) == api.OK {
				read++
			}
			if whole(t, (i+5)%buckets, s) && s != "\x00" {
				t.Fatalf("%x is read in two buckets", s)
			}
		})
	}
	look("", "\x00\x01\x02\x03a/", 6)
	look("\x01\x03a/", "\x00\x01\x02\x1f\x20\x21\x80a/\xff", 4)
	look("\x02\x03a/", "\x00\x01\x03a/b", 6)
	if read < 50 {
		t.Errorf("%d were read", read)
	}
}

// Two pairs of the shortest paths: all that are of one bucket are read in their row, and no others.
func TestP145Shortest(t *testing.T) {
	read := 0
	for c := range 256 {
		for d := range 256 {
			p, q := string([]byte{'a', '/', byte(c)}), string([]byte{'a', '/', byte(d)})
			i := bucketOf(p)
			want := isPath(p) && isPath(q) && c < d && bucketOf(q) == i
			if whole(t, i, bytesOf(pair(p, ""), pair(q, "1"))) != want {
				t.Fatalf("Read of %q and %q: %v", p, q, !want)
			}
			if want {
				read++
			}
		}
	}
	if read < 500 {
		t.Errorf("%d were read", read)
	}
}

// Pages by chance, as they are and with some bytes changed, cut or doubled.
func TestP145Changed(t *testing.T) {
	count := map[api.Errno]int{}
	for seed := range int64(20_000) {
		r := rand.New(rand.NewSource(seed))
		i := r.Intn(buckets)
		l := bucket.Part(many(r.Intn(300)), i)
		b := []byte(bytesOf(l...))
		for range r.Intn(3) {
			at := r.Intn(len(b))
			switch r.Intn(6) {
			case 0, 1:
				b[at] = byte(r.Intn(256))
			case 2:
				b[at]++
			case 3:
				b = b[:at+1]
			case 4:
				b = slices.Insert(b, at, byte(r.Intn(256)))
			case 5:
				b = slices.Delete(b, at, at+1+r.Intn(min(9, len(b)-at)))
			}
			if len(b) == 0 {
				break
			}
		}
		count[reads(t, i, string(b))]++
		whole(t, i, string(b))
		whole(t, r.Intn(buckets), string(b))
	}
	for _, e := range []api.Errno{api.OK, api.ErrShort, api.ErrForm} {
		if count[e] < 1000 {
			t.Errorf("%d were answered %d", count[e], e)
		}
	}
}
