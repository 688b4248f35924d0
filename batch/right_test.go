package batch_test

import (
	"math"
	"math/rand"
	"slices"
	"strings"
	"testing"

	"twinlock/api"
	"twinlock/batch"
)

func TestP122Examples(t *testing.T) {
	s, e := batch.Bytes(of(1, 2, put("app/a", "1")))
	if s != "\x01\x02\x01\x01\x05app/a\x011" || e != api.OK {
		t.Errorf("%q, %d", s, e)
	}
	rightsTo(t, api.OK, of(1, 2, put("app/a", "1")))
}

// Bytes that are written here by hand.
func TestP122Bytes(t *testing.T) {
	for _, x := range []struct {
		b    api.Batch
		want string
	}{
		{of(1, 1), "\x01\x01\x00"},
		{of(127, 128), "\x7f\x80\x01\x00"},
		{of(300, 16384), "\xac\x02\x80\x80\x01\x00"},
		{of(1<<62, math.MaxInt), "\x80\x80\x80\x80\x80\x80\x80\x80\x40\xff\xff\xff\xff\xff\xff\xff\xff\x7f\x00"},
		{of(1<<62-1, 1<<62), "\xff\xff\xff\xff\xff\xff\xff\xff\x3f\x80\x80\x80\x80\x80\x80\x80\x80\x40\x00"},
		{of(1, 1, put("a/b", "")), "\x01\x01\x01\x01\x03a/b\x00"},
		{of(1, 1, del("a/b")), "\x01\x01\x01\x02\x03a/b"},
		{of(2, 3, del("a/b"), put("app/\xff", "\x00")), "\x02\x03\x02\x02\x03a/b\x01\x05app/\xff\x01\x00"},
		{of(3, 2, put("app/\xff", "\x00"), del("a/b")), "\x03\x02\x02\x01\x05app/\xff\x01\x00\x02\x03a/b"},
		{of(1, 1, put("a/b", "12"), put("a/b", "12"), del("c/d"), del("c/d")), "\x01\x01\x04\x01\x03a/b\x0212\x01\x03a/b\x0212\x02\x03c/d\x02\x03c/d"},
		{of(1, 1, put(longest(), valued(32))), "\x01\x01\x01\x01\x21" + longest() + "\x20" + valued(32)},
	} {
		if s, e := batch.Bytes(x.b); s != x.want || e != api.OK {
			t.Errorf("Bytes(%q): %x, %d, not %x", show(x.b), s, e, x.want)
		}
		rightsTo(t, api.OK, x.b)
		readsTo(t, x.want, x.b, api.OK)
	}
	// Those of the longest batch.
	o := put(longest(), valued(32))
	s, e := batch.Bytes(of(1<<62, math.MaxInt, o, o, o, o))
	if len(s) != 9+9+1+4*(1+1+33+1+32) || e != api.OK {
		t.Errorf("%d bytes, %d", len(s), e)
	}
}

// within says whether an Index and an Epoch are within their bounds.
func within(index, epoch int) bool { return index >= 1 && index <= 1<<62 && epoch >= 1 }

// Each Index with each Epoch, with operations of all kinds: out of its bounds it goes ahead of all else.
func TestP122Numbers(t *testing.T) {
	for _, i := range edges() {
		for _, epoch := range edges() {
			for n := range 5 {
				want := api.OK
				if !within(i, epoch) {
					want = api.ErrArg
				}
				rightsTo(t, want, of(i, epoch, many(n)...))
			}
			for _, n := range []int{5, 6, 256, 256 + 4} {
				want := api.ErrLong
				if !within(i, epoch) {
					want = api.ErrArg
				}
				rightsTo(t, want, of(i, epoch, many(n)...))
			}
			for o, want := range map[api.Op]api.Errno{{Kind: 3, Path: "app/a"}: api.ErrKind, put("app", "1"): api.ErrKey, put("app/a", valued(33)): api.ErrLong, {Kind: 2, Path: "app/a", Value: "1"}: api.ErrArg} {
				if !within(i, epoch) {
					want = api.ErrArg
				}
				rightsTo(t, want, of(i, epoch, o))
				rightsTo(t, want, of(i, epoch, append(many(3), o)...))
			}
		}
	}
}

func TestP122Many(t *testing.T) {
	for n := range 5 {
		rightsTo(t, api.OK, of(1, 1, many(n)...))
	}
	rightsTo(t, api.OK, api.Batch{Index: 1, Epoch: 1, Ops: []api.Op{}})
	for _, n := range []int{5, 6, 7, 8, 256, 256 + 1, 256 + 4, 1 << 16, huge} {
		rightsTo(t, api.ErrLong, of(1, 1, many(n)...))
	}
	for _, o := range wrong() {
		rightsTo(t, api.ErrLong, of(1, 1, o, o, o, o, o))
		rightsTo(t, api.ErrLong, of(1, 1, append(many(4), o)...))
		rightsTo(t, api.ErrArg, of(0, 1, o, o, o, o, o))
		rightsTo(t, api.ErrArg, of(1, 0, append(many(4), o)...))
	}
	rightsTo(t, api.ErrArg, api.Batch{})
}

// rightInEach asks whether Right tells that of a batch with such an operation, wherever it stands.
func rightInEach(t *testing.T, want api.Errno, o api.Op) {
	t.Helper()
	inEach(o, func(ops []api.Op) { rightsTo(t, want, of(7, 9, ops...)) })
}

func TestP122Kinds(t *testing.T) {
	for k := range 256 {
		for _, v := range []string{"", "1", valued(32), valued(33)} {
			want := api.ErrKind
			if k == 1 || k == 2 {
				want = first(faults(api.Op{Kind: uint8(k), Value: v}, api.OK))
			}
			rightInEach(t, want, api.Op{Kind: uint8(k), Path: "app/a", Value: v})
		}
	}
}

// Paths of any mounts are right, what is no path is not.
func TestP122Paths(t *testing.T) {
	for _, p := range noPaths() {
		for _, o := range []api.Op{put(p, ""), put(p, "1"), del(p)} {
			rightInEach(t, api.ErrKey, o)
		}
	}
	for _, p := range goodPaths() {
		for _, o := range []api.Op{put(p, ""), put(p, "1"), del(p)} {
			rightInEach(t, api.OK, o)
		}
	}
	// Names and keys of each length.
	for n := range maxName + 3 {
		for k := range maxKey + 3 {
			want := api.ErrKey
			if n >= 1 && n <= 8 && k >= 1 && k <= 24 {
				want = api.OK
			}
			rightsTo(t, want, of(1, 1, put(letters(n)+"/"+keyed(k), "1")))
			rightsTo(t, want, of(1, 1, del(letters(n)+"/"+keyed(k))))
		}
	}
}

func TestP122Values(t *testing.T) {
	for _, v := range values() {
		ofPut, ofDelete := api.OK, api.ErrArg
		if len(v) == 0 {
			ofDelete = api.OK
		}
		if len(v) > 32 {
			ofPut, ofDelete = api.ErrLong, api.ErrLong
		}
		rightInEach(t, ofPut, put("app/a", v))
		rightInEach(t, ofDelete, api.Op{Kind: 2, Path: "app/a", Value: v})
	}
}

// Of one operation's errors the kind's goes ahead, then the path's, then a value's that is too long, then a Delete's.
func TestP122TwoInOne(t *testing.T) {
	for _, k := range []uint8{0, 1, 2, 3, 255} {
		for p, ok := range map[string]bool{"app/a": true, "web/a": true, "app": false, "": false, letters(huge): false} {
			for _, n := range []int{0, 1, 32, 33, huge} {
				var want api.Errno
				switch {
				case k != 1 && k != 2:
					want = api.ErrKind
				case !ok:
					want = api.ErrKey
				case n > 32:
					want = api.ErrLong
				case k == 2 && n > 0:
					want = api.ErrArg
				}
				rightInEach(t, want, api.Op{Kind: k, Path: p, Value: valued(n)})
			}
		}
	}
}

// Of several operations' errors the first one's counts, in either row: all lists of up to four operations out of ten.
func TestP122TwoInList(t *testing.T) {
	some := kindsOfOps()
	for n := range 5 {
		lists(n, some, func(ops []api.Op) {
			want := api.OK
			for i := n - 1; i >= 0; i-- {
				if e := rightOf(of(1, 1, ops[i])); e != api.OK {
					want = e
				}
			}
			if e := batch.Right(of(1, 1, ops...)); e != want {
				t.Fatalf("Right(%q): %d, not %d", show(api.Batch{Ops: ops}), e, want)
			}
			if s, e := batch.Bytes(of(1, 1, ops...)); e != want || (s == "") != (want != api.OK) {
				t.Fatalf("Bytes(%q): %x, %d, not %d", show(api.Batch{Ops: ops}), s, e, want)
			}
		})
	}
	lists(2, some, func(ops []api.Op) { rights(t, of(1, 1, ops...)) })
}

// Two errors side by side, with their numbers, either row.
func TestP122Rows(t *testing.T) {
	errors := map[api.Errno]api.Op{api.ErrKind: {Kind: 0, Path: "app/a"}, api.ErrKey: put("app/", "1"), api.ErrLong: put("app/a", valued(33)), api.ErrArg: {Kind: 2, Path: "app/a", Value: "1"}}
	for e, o := range errors {
		for _, p := range errors {
			rightsTo(t, e, of(1, 1, o, p))
			rightsTo(t, e, of(1, 1, put("web/a", ""), o, p))
			rightsTo(t, e, of(1, 1, o, del("app/a"), p, p))
			rightsTo(t, e, of(1, 1, del("app/a"), put("ops/b", "2"), o, p))
			rightsTo(t, api.ErrLong, of(1, 1, o, p, o, p, o))
			rightsTo(t, api.ErrArg, of(0, 1, o, p))
		}
	}
}

// What May tells of operations, Right tells of their batch, if all mounts are there.
func TestP122AsMay(t *testing.T) {
	r := rand.New(rand.NewSource(1222))
	for range 20_000 {
		ops := chanceOps(r)
		l := mounts("app", "ops")
		for _, o := range ops {
			if name, ok := nameOf(o.Path); ok {
				l = append(l, api.Mount{Name: name})
			}
		}
		if len(ops) > 0 && batch.May(l, ops) != batch.Right(of(1, 1, ops...)) {
			t.Fatalf("%q: %d and %d", show(of(1, 1, ops...)), batch.May(l, ops), batch.Right(of(1, 1, ops...)))
		}
	}
}

// chanceBatch is a batch by chance: many of them are right.
func chanceBatch(r *rand.Rand) api.Batch {
	b := of(1+r.Intn(1000), 1+r.Intn(1000), chanceOps(r)...)
	switch r.Intn(8) {
	case 0:
		b.Index = one(r, edges())
	case 1:
		b.Epoch = one(r, edges())
	case 2:
		b.Index, b.Epoch = 1+int(r.Uint64()>>1)>>r.Intn(62), 1+int(r.Uint64()>>1)>>r.Intn(62)
	}
	return b
}

func TestP122Chance(t *testing.T) {
	r := rand.New(rand.NewSource(122))
	for range 50_000 {
		rights(t, chanceBatch(r))
	}
}

// What is asked again is answered again, of a batch that changed between what it is now.
func TestP122Again(t *testing.T) {
	b := of(1, 2, usual()...)
	for range 3 {
		rightsTo(t, api.OK, b)
	}
	b.Ops[2].Kind = 3
	rightsTo(t, api.ErrKind, b)
	b.Ops = b.Ops[:2]
	rightsTo(t, api.OK, b)
	b.Index = 0
	rightsTo(t, api.ErrArg, b)
}

// Bytes are new memory, whatever becomes of those that were handed in; and what is handed in stays.
func TestP125Bytes(t *testing.T) {
	p, v := []byte("app/a"), []byte("12")
	s, e := batch.Bytes(of(1, 2, put(textOn(p), textOn(v)), del(textOn(p))))
	want := strings.Clone(s)
	clear(p)
	clear(v)
	if s != want || s != "\x01\x02\x02\x01\x05app/a\x0212\x02\x05app/a" || e != api.OK {
		t.Errorf("%q, %d", s, e)
	}
	for n := range 7 {
		rights(t, of(1, 1, many(n)...))
		rights(t, of(0, 1, many(n)...))
	}
	// With room that has more than there may be.
	room := slices.Repeat([]api.Op{put("app/a", "1")}, 6)
	rightsTo(t, api.OK, of(1, 1, room[:4]...))
	rightsTo(t, api.ErrLong, of(1, 1, room[:5]...))
}
