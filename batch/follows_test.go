package batch_test

import (
	"math"
	"math/rand"
	"testing"

	"twinlock/api"
	"twinlock/batch"
)

// back asks whether Read of Bytes is the batch, and Bytes of that the same bytes.
func back(t *testing.T, b api.Batch) string {
	t.Helper()
	s, e := batch.Bytes(b)
	if e != api.OK {
		t.Fatalf("Bytes(%q): %d", show(b), e)
	}
	c, e := batch.Read(s)
	if e != api.OK || !sameOf(b, c) || !batch.Same(b, c) {
		t.Fatalf("Read(Bytes(%q)): %q, %d", show(b), show(c), e)
	}
	if own, e := batch.Bytes(c); own != s || e != api.OK {
		t.Fatalf("Bytes(%q): %x, %d, not %x", show(c), own, e, s)
	}
	return s
}

// edgeOps are operations at all edges: of each Kind, of the shortest and the longest path, of each value's edges.
func edgeOps() (l []api.Op) {
	for _, p := range []string{"a/x", "app/\xff", longest()} {
		l = append(l, del(p))
		for _, n := range []int{0, 1, 31, 32} {
			l = append(l, put(p, valued(n)))
		}
	}
	return l
}

// All batches of edges' numbers and up to four edges' operations; no two of them have the same bytes.
func TestP126Edges(t *testing.T) {
	told := map[string]bool{}
	count := 0
	add := func(b api.Batch) {
		told[back(t, b)] = true
		count++
	}
	for n := range 4 {
		lists(n, edgeOps(), func(ops []api.Op) { add(of(1<<62, math.MaxInt, ops...)) })
	}
	for n := range 5 {
		lists(n, []api.Op{put("a/x", ""), del("a/x"), put(longest(), valued(32)), del(longest())}, func(ops []api.Op) { add(of(1, 1, ops...)) })
	}
	for _, i := range edges() {
		for _, epoch := range edges() {
			if !within(i, epoch) || i == 1 && epoch == 1 || i == 1<<62 && epoch == math.MaxInt {
				continue
			}
			for n := range 5 {
				add(of(i, epoch, many(n)...))
			}
		}
	}
	if len(told) != count || count < 3000 {
		t.Errorf("%d batches have %d texts of bytes", count, len(told))
	}
}

func TestP126Chance(t *testing.T) {
	r := rand.New(rand.NewSource(126))
	rights := 0
	for range 50_000 {
		b := chanceBatch(r)
		if rightOf(b) == api.OK {
			back(t, b)
			rights++
		}
	}
	if rights < 20_000 {
		t.Errorf("%d batches are right", rights)
	}
}

// Numbers of each length.
func TestP126Numbers(t *testing.T) {
	for i := range 63 {
		for d := -1; d <= 1; d++ {
			for j := range 63 {
				n, epoch := 1<<i+d, 1<<j+d
				if n >= 1 && n <= 1<<62 && epoch >= 1 {
					back(t, of(n, epoch, del("a/x")))
				}
			}
		}
	}
}

// Of all short texts of a few bytes just those are read that a batch's bytes are.
func TestP126Short(t *testing.T) {
	read := 0
	look := func(ahead, alphabet string, n int) {
		short(n, alphabet, func(s string) {
			s = ahead + s
			want, e := readOf(s)
			b, f := batch.Read(s)
			if f != e || !sameOf(b, want) {
				t.Fatalf("Read(%x): %q, %d, not %q, %d", s, show(b), f, show(want), e)
			}
			if f == api.OK {
				read++
				back(t, b)
				if own, _ := batch.Bytes(b); own != s {
					t.Fatalf("Read(%x): %q, whose bytes are %x", s, show(b), own)
				}
			}
		})
	}
	look("", "\x00\x01\x02\x04\x05\x7f\x80\xff", 5)
	look("\x01", "\x00\x01\x02\x03a/", 7)
	look("\x01\x01", "\x00\x01\x02\x03a/\x80", 6)
	look("\x01\x01\x01\x01\x03a/a", "\x00\x01\x02\x1f\x20\x21\x80a", 4)
	look("\x01\x01\x02\x02\x03a/a", "\x01\x02\x03a/", 7)
	if read < 100 {
		t.Errorf("%d batches were read", read)
	}
}

// All texts of three bytes: those are read that are an Index and an Epoch of one byte each, and no operation.
func TestP126Three(t *testing.T) {
	if testing.Short() {
		t.Skip("very many texts")
	}
	s := make([]byte, 3)
	for n := range 1 << 24 {
		s[0], s[1], s[2] = byte(n), byte(n>>8), byte(n>>16)
		b, e := batch.Read(string(s))
		ok := s[0] >= 1 && s[0] < 128 && s[1] >= 1 && s[1] < 128 && s[2] == 0
		if (e == api.OK) != ok || ok != (b.Index > 0) || len(b.Ops) > 0 {
			t.Fatalf("Read(%x): %q, %d", s, show(b), e)
		}
		if ok && (b.Index != int(s[0]) || b.Epoch != int(s[1])) {
			t.Fatalf("Read(%x): %q", s, show(b))
		}
	}
}

// Texts of up to two bytes are no batch's.
func TestP126Two(t *testing.T) {
	unread(t, api.ErrShort, "")
	for n := range 1 << 16 {
		s := string([]byte{byte(n), byte(n >> 8)})
		reads(t, s)
		reads(t, s[:1])
		if errorOf(s) == api.OK || errorOf(s[:1]) == api.OK {
			t.Fatalf("Read(%x)", s)
		}
	}
}

// A batch that is right stays so, with whatever mounts; filtered once more it stays the same.
func TestP126Filter(t *testing.T) {
	lists4 := [][]api.Mount{nil, examples(), mounts("app!", "ops!"), mounts("app", "ops"), mounts("a!"), mounts("app!", "app"), mounts("app", "app!"), mounts("", "!", "App!")}
	for _, b := range batches() {
		for _, l := range lists4 {
			once := batch.Filter(l, b)
			if e := batch.Right(once); e != api.OK {
				t.Errorf("Filter(%v, %q): %q, %d", l, show(b), show(once), e)
			}
			if twice := batch.Filter(l, once); !batch.Same(once, twice) || !sameOf(once, twice) {
				t.Errorf("Filter(%v, %q): %q, then %q", l, show(b), show(once), show(twice))
			}
			back(t, once)
			// In whichever row two lists of mounts filter, the same is left.
			for _, m := range lists4 {
				if !batch.Same(batch.Filter(m, once), batch.Filter(l, batch.Filter(m, b))) {
					t.Errorf("Filter of %q by %v and %v", show(b), l, m)
				}
			}
		}
	}
}

func TestP126FilterChance(t *testing.T) {
	r := rand.New(rand.NewSource(1261))
	for range 50_000 {
		l, b := chanceMounts(r), chanceBatch(r)
		once := batch.Filter(l, b)
		if !batch.Same(batch.Filter(l, once), once) {
			t.Fatalf("Filter(%v, %q): %q", l, show(b), show(once))
		}
		if batch.Right(b) == api.OK {
			back(t, once)
		}
		// Of operations that may be those that are left may be, if there are any.
		if batch.May(l, b.Ops) == api.OK && len(once.Ops) > 0 && batch.May(l, once.Ops) != api.OK {
			t.Fatalf("Filter(%v, %q): %q", l, show(b), show(once))
		}
	}
}
