package bucket_test

import (
	"math/rand"
	"slices"
	"testing"

	"twinlock/api"
	"twinlock/bucket"
)

// Of each number, with no pair and with pairs.
func TestP142Numbers(t *testing.T) {
	for _, i := range numbers() {
		want := api.ErrArg
		if isBucket(i) {
			want = api.OK
		}
		pagesTo(t, want, i)
		for _, l := range [][]api.Pair{nil, {}} {
			if s, e := bucket.Page(i, l); e != want || (s == "\x00") != (e == api.OK) {
				t.Errorf("Page(%d, none): %q, %d", i, s, e)
			}
		}
		for j := range buckets {
			want := api.ErrArg
			if i == j {
				want = api.OK
			}
			for _, n := range []int{1, 2, 48} {
				pagesTo(t, want, i, inOne(j, n)...)
			}
		}
		pagesTo(t, api.ErrArg, i, many(2)...)
		pagesTo(t, api.ErrArg, i, many(100)...)
	}
}

// The chapter's example, byte by byte, and pages of more pairs.
func TestP142Known(t *testing.T) {
	for _, x := range []struct {
		i    int
		l    []api.Pair
		want string
	}{
		{3, nil, "\x00"},
		{3, []api.Pair{pair("app/a", "1")}, "\x01\x05app/a\x011"},
		{3, []api.Pair{pair("app/a", "")}, "\x01\x05app/a\x00"},
		{8, []api.Pair{pair("app/3", "\x00\xff")}, "\x01\x05app/3\x02\x00\xff"},
		{6, []api.Pair{pair("app/16", "x"), pair("ops/k", "yz")}, "\x02\x06app/16\x01x\x05ops/k\x02yz"},
	} {
		if s, e := bucket.Page(x.i, x.l); s != x.want || e != api.OK {
			t.Errorf("Page(%d, %q): %q, %d, not %q", x.i, x.l, s, e, x.want)
		}
		pagesTo(t, api.OK, x.i, x.l...)
	}
}

// How many pairs of one bucket: each number up to 48, and beyond it.
func TestP142Many(t *testing.T) {
	for i := range buckets {
		all := inOne(i, 1000)
		for n := range maxKeys + 1 {
			pagesTo(t, api.OK, i, all[:n]...)
			pagesTo(t, api.OK, i, all[1000-n:]...)
		}
		for _, n := range []int{49, 50, 63, 64, 96, 127, 128, 255, 256, 256 + 1, 256 + 48, 1000} {
			pagesTo(t, api.ErrLong, i, all[:n]...)
		}
	}
	l := inOne(5, 1<<16+1)
	for _, n := range []int{1 << 16, 1<<16 + 1} {
		pagesTo(t, api.ErrLong, 5, l[:n]...)
	}
}

// Values of each length, at each place; paths of each kind.
func TestP142Values(t *testing.T) {
	for _, n := range []int{1, 2, 47, 48} {
		l := inOne(9, n)
		for at := range l {
			for m := range 40 {
				l[at].Value = valued(m)
				want := api.OK
				if m > 32 {
					want = api.ErrArg
				}
				pagesTo(t, want, 9, l...)
			}
			l[at].Value = ""
		}
		for at := range l {
			l[at].Value = valued(32)
		}
		pagesTo(t, api.OK, 9, l...)
	}
	for _, p := range goodPaths() {
		for _, v := range []string{"", "\x00", "1", valued(31), valued(32)} {
			for i := range buckets {
				want := api.OK
				if i != bucketOf(p) {
					want = api.ErrArg
				}
				pagesTo(t, want, i, pair(p, v))
			}
		}
	}
}

// Pairs of which just one is of another bucket, wherever it stands.
func TestP142Other(t *testing.T) {
	for i := range buckets {
		for _, n := range []int{2, 3, 47, 48, 49, 60} {
			l := inOne(i, n)
			for at := range l {
				was := l[at]
				l[at].Path = outOf(i, was.Path)
				maysTo(t, true, l...)
				pagesTo(t, api.ErrArg, i, l...)
				pagesTo(t, api.ErrArg, bucketOf(l[at].Path), l...)
				l[at] = was
			}
		}
	}
}

// wrongLists are n pairs of the bucket 4 each, of which one is wrong, at each place.
func wrongLists(n int, tell func(l []api.Pair)) {
	l := inOne(4, n)
	for at := range l {
		was := l[at]
		for _, x := range []api.Pair{
			pair(was.Path, valued(33)),
			pair(was.Path+"/", "1"),
			pair("app", "1"),
			pair("", ""),
			pair(outOf(4, was.Path), ""),
		} {
			l[at] = x
			tell(l)
		}
		l[at] = was
		if at > 0 {
			l[at], l[at-1] = l[at-1], l[at]
			tell(l)
			l[at], l[at-1] = l[at-1], l[at]
			l[at] = l[at-1]
			tell(l)
			l[at] = was
		}
	}
}

// Pairs that may not be, or are not of the bucket, are ErrArg, also if they are too many.
func TestP142Order(t *testing.T) {
	for _, n := range []int{1, 2, 47, 48, 49, 50, 96, 300} {
		wrongLists(n, func(l []api.Pair) { pagesTo(t, api.ErrArg, 4, l...) })
		own := inOne(4, n)
		want := api.OK
		if n > 48 {
			want = api.ErrLong
		}
		for _, i := range numbers() {
			if i == 4 {
				pagesTo(t, want, i, own...)
			} else {
				pagesTo(t, api.ErrArg, i, own...)
			}
		}
	}
	for _, i := range numbers() {
		pagesTo(t, api.ErrArg, i, many(49)...)
		pagesTo(t, api.ErrArg, i, slices.Repeat(inOne(4, 1), 49)...)
		pagesTo(t, api.ErrArg, i, slices.Repeat([]api.Pair{pair("app", "")}, 49)...)
		pagesTo(t, api.ErrArg, i, slices.Repeat([]api.Pair{{}}, 49)...)
		pagesTo(t, api.ErrArg, i, make([]api.Pair, huge)...)
		pagesTo(t, api.ErrArg, i, many(huge)...)
	}
}

func TestP142All(t *testing.T) {
	count := map[api.Errno]int{}
	// app/a and app/ae are of the bucket 3.
	some := []api.Pair{pair("app/a", "1"), pair("app/a", ""), pair("app/ae", valued(32)), pair("app/b", ""), pair("app/ae", valued(33)), pair("app", "1")}
	allLists(4, some, func(l []api.Pair) {
		for _, i := range []int{-1, 3, 4, 16} {
			count[pages(t, i, l...)]++
		}
	})
	if count[api.OK] < 5 || count[api.ErrArg] < 1000 {
		t.Errorf("%v", count)
	}
}

// Parts by chance, of lists that are right and that are not.
func TestP142Chance(t *testing.T) {
	count := map[api.Errno]int{}
	for seed := range int64(4000) {
		r := rand.New(rand.NewSource(seed))
		i := r.Intn(buckets)
		l := bucket.Part(chancePairs(r), i)
		if seed%3 == 0 {
			l = bucket.Part(many(1400+r.Intn(800)), i)[r.Intn(50):]
		}
		if r.Intn(3) == 0 && len(l) > 0 {
			l[r.Intn(len(l))] = one(r, many(5))
		}
		count[pages(t, i, l...)]++
	}
	for _, e := range []api.Errno{api.OK, api.ErrArg, api.ErrLong} {
		if count[e] < 200 {
			t.Errorf("%d lists were answered %d", count[e], e)
		}
	}
}

// What is told is its own, whatever becomes of what was handed in.
func TestP144Page(t *testing.T) {
	b := []byte("app/a12345")
	l := []api.Pair{{Path: textOn(b[:5]), Value: textOn(b[5:])}}
	s, e := bucket.Page(3, l)
	clear(b)
	clear(l)
	if s != "\x01\x05app/a\x0512345" || e != api.OK {
		t.Errorf("Page: %q, %d", s, e)
	}
}
