package batch_test

import (
	"math/rand"
	"slices"
	"strings"
	"testing"

	"twinlock/api"
	"twinlock/batch"
)

func TestLimits(t *testing.T) {
	if api.MaxOps != maxOps || api.MaxValue != maxValue || api.MaxMount != maxName || api.MaxKey != maxKey || api.MaxEpoch != maxEpoch || api.Put != 1 || api.Delete != 2 {
		t.Fatal("the limits")
	}
}

func TestP121Examples(t *testing.T) {
	maysTo(t, api.OK, examples(), put("app/a", "1"))
	maysTo(t, api.ErrArg, examples())
	maysTo(t, api.ErrMount, examples(), put("web/a", "1"))
	maysTo(t, api.ErrArg, examples(), api.Op{Kind: api.Delete, Path: "app/a", Value: "1"})
}

// many are n operations that may be.
func many(n int) (ops []api.Op) {
	for i := range n {
		ops = append(ops, usual()[i%4])
	}
	return ops
}

// None is ErrArg, more than four are ErrLong, whatever the mounts and the operations are.
func TestP121Many(t *testing.T) {
	for _, l := range [][]api.Mount{nil, {}, examples(), mounts("web"), mounts("app", "app!"), mounts("")} {
		if e := batch.May(l, nil); e != api.ErrArg {
			t.Errorf("May(%v, nil): %d", l, e)
		}
		if e := batch.May(l, []api.Op{}); e != api.ErrArg {
			t.Errorf("May(%v, none): %d", l, e)
		}
		for _, n := range []int{5, 6, 7, 8, 256, 256 + 1, 256 + 4, 1 << 16, huge} {
			maysTo(t, api.ErrLong, l, many(n)...)
		}
		for _, o := range wrong() {
			maysTo(t, api.ErrLong, l, o, o, o, o, o)
			maysTo(t, api.ErrLong, l, append(many(4), o)...)
			maysTo(t, api.ErrLong, l, append([]api.Op{o}, many(4)...)...)
		}
	}
	for n := 1; n <= 4; n++ {
		maysTo(t, api.OK, examples(), many(n)...)
	}
	// The same operation, again and again; a path that is put, deleted, put.
	o := put("app/a", "1")
	maysTo(t, api.OK, examples(), o, o, o, o)
	maysTo(t, api.OK, examples(), o, del("app/a"), put("app/a", "2"), del("app/a"))
}

// wrong are operations that may never be, one for each reason.
func wrong() []api.Op {
	return []api.Op{{Kind: 3, Path: "app/a"}, put("app", "1"), put("app/a", valued(33)), {Kind: 2, Path: "app/a", Value: "1"}}
}

// at is a list of n operations that may be, with o at i.
func at(n, i int, o api.Op) []api.Op {
	ops := many(n)
	ops[i] = o
	return ops
}

// inEach lets an operation stand at each place of lists of each length.
func inEach(o api.Op, call func(ops []api.Op)) {
	for n := 1; n <= 4; n++ {
		for i := range n {
			call(at(n, i, o))
		}
	}
}

// mayInEach asks whether May tells that of an operation, wherever it stands among those that may be.
func mayInEach(t *testing.T, want api.Errno, l []api.Mount, o api.Op) {
	t.Helper()
	inEach(o, func(ops []api.Op) { maysTo(t, want, l, ops...) })
}

func TestP121Kinds(t *testing.T) {
	for k := range 256 {
		for _, v := range []string{"", "1", valued(32), valued(33)} {
			want := api.ErrKind
			if k == 1 || k == 2 {
				want = first(faults(api.Op{Kind: uint8(k), Value: v}, api.OK))
			}
			mayInEach(t, want, examples(), api.Op{Kind: uint8(k), Path: "app/a", Value: v})
		}
	}
}

// Texts that are no path are ErrKey, wherever they stand, whatever the mounts are.
func TestP121NoPath(t *testing.T) {
	for _, p := range noPaths() {
		name, _, _ := strings.Cut(p, "/")
		for _, o := range []api.Op{put(p, ""), put(p, "1"), del(p)} {
			mayInEach(t, api.ErrKey, examples(), o)
			for _, l := range [][]api.Mount{nil, mounts("web"), {{Name: p, Ship: true}}, {{Name: name}}, mounts("app", "app!"), mounts("", "!")} {
				maysTo(t, api.ErrKey, l, o)
			}
		}
	}
}

// Paths of one of the mounts may be, all others are ErrMount.
func TestP121Mounts(t *testing.T) {
	for _, p := range goodPaths() {
		name, _, _ := strings.Cut(p, "/")
		for _, o := range []api.Op{put(p, ""), put(p, "1"), del(p)} {
			for _, l := range [][]api.Mount{nil, {}, mounts("ap"), mounts("apps!"), mounts(name + "x"), mounts(name[1:]), mounts(strings.ToUpper(name)), mounts(name+"/", p, name+"\x00"), mounts("no", "not", "never", "none", "nix!")} {
				maysTo(t, api.ErrMount, l, o)
			}
			for _, l := range [][]api.Mount{mounts(name), mounts(name + "!"), mounts("no", name), mounts("no", "not!", "never", "none", name), mounts(name, name+"!"), mounts(name+"!", "no", name), mounts("", name)} {
				maysTo(t, api.OK, l, o)
			}
		}
	}
	mayInEach(t, api.ErrMount, examples(), put("web/a", "1"))
	mayInEach(t, api.ErrMount, examples(), del("web/a"))
}

// Whether a mount is shipped is nothing to May.
func TestP121Ship(t *testing.T) {
	for _, l := range [][]api.Mount{mounts("app", "ops"), mounts("app!", "ops"), mounts("app", "ops!"), mounts("app!", "ops!")} {
		maysTo(t, api.OK, l, usual()...)
	}
}

// values are values of each length about the edges, and of as many runes, or half as many bytes, as there may be bytes.
func values() []string {
	var l []string
	for n := range 36 {
		l = append(l, valued(n), letters(n), strings.Repeat("\x00", n), strings.Repeat("\xff", n))
	}
	l = append(l, strings.Repeat("\xe2\x82\xac", 10)+"ab", strings.Repeat("\xe2\x82\xac", 11), strings.Repeat("\xc3\xa4", 16), strings.Repeat("\xc3\xa4", 17), strings.Repeat("\xc3\xa4", 32), " ", "\n", "a/b")
	return append(l, valued(64), valued(255), valued(256), valued(256+1), valued(256+32), valued(1<<16), valued(1<<16+32), valued(huge))
}

func TestP121Values(t *testing.T) {
	for _, v := range values() {
		ofPut, ofDelete := api.OK, api.ErrArg
		if len(v) == 0 {
			ofDelete = api.OK
		}
		if len(v) > 32 {
			ofPut, ofDelete = api.ErrLong, api.ErrLong
		}
		mayInEach(t, ofPut, examples(), put("app/a", v))
		mayInEach(t, ofDelete, examples(), api.Op{Kind: 2, Path: "app/a", Value: v})
	}
}

// Of one operation's errors the kind's goes ahead, then the path's, then a value's that is too long, then a Delete's.
func TestP121TwoInOne(t *testing.T) {
	for _, k := range []uint8{0, 1, 2, 3, 255} {
		for p, ofPath := range map[string]api.Errno{"app/a": api.OK, "app": api.ErrKey, "": api.ErrKey, "web/a": api.ErrMount} {
			for _, n := range []int{0, 1, 32, 33, huge} {
				var want api.Errno
				switch {
				case k != 1 && k != 2:
					want = api.ErrKind
				case ofPath != api.OK:
					want = ofPath
				case n > 32:
					want = api.ErrLong
				case k == 2 && n > 0:
					want = api.ErrArg
				}
				mayInEach(t, want, examples(), api.Op{Kind: k, Path: p, Value: valued(n)})
			}
		}
	}
}

// kindsOfOps are operations with each outcome, of the examples' mounts.
func kindsOfOps() []api.Op {
	return []api.Op{put("app/a", "1"), del("ops/b"), {Kind: 0, Path: "app/a"}, {Kind: 3, Path: "app", Value: valued(33)}, put("app", "1"), del("App/x"), put("web/a", "1"), put("app/a", valued(33)), {Kind: 2, Path: "ops/b", Value: "1"}, {Kind: 2, Path: "ops/b", Value: valued(33)}}
}

// Of several operations' errors the first one's counts, in either row: all lists of up to four operations out of ten.
func TestP121TwoInList(t *testing.T) {
	some := kindsOfOps()
	for n := range 5 {
		lists(n, some, func(ops []api.Op) {
			want := api.OK
			if n == 0 {
				want = api.ErrArg
			}
			for i := n - 1; i >= 0; i-- {
				if e := mayOf(examples(), ops[i:i+1]); e != api.OK {
					want = e
				}
			}
			if e := batch.May(examples(), ops); e != want {
				t.Fatalf("May(%q): %d, not %d", show(api.Batch{Ops: ops}), e, want)
			}
		})
	}
	lists(2, some, func(ops []api.Op) { mays(t, examples(), ops...) })
}

// Two errors side by side, with their numbers, either row.
func TestP121Rows(t *testing.T) {
	errors := map[api.Errno]api.Op{api.ErrKind: {Kind: 3, Path: "app/a"}, api.ErrKey: put("app/", "1"), api.ErrMount: put("web/a", "1"), api.ErrLong: put("app/a", valued(33)), api.ErrArg: {Kind: 2, Path: "app/a", Value: "1"}}
	for e, o := range errors {
		for _, p := range errors {
			maysTo(t, e, examples(), o, p)
			maysTo(t, e, examples(), put("app/a", ""), o, p)
			maysTo(t, e, examples(), o, del("app/a"), p, p)
			maysTo(t, e, examples(), del("app/a"), put("ops/b", "2"), o, p)
			maysTo(t, api.ErrLong, examples(), o, p, o, p, o)
		}
	}
}

// What chanceOp takes its paths from.
var (
	chanceNoPaths   = noPaths()
	chanceGoodPaths = goodPaths()
)

// chanceOp is an operation by chance: most of them may be.
func chanceOp(r *rand.Rand) api.Op {
	o := one(r, usual())
	switch r.Intn(12) {
	case 0:
		o.Kind = uint8(r.Intn(256))
	case 1:
		o.Path = one(r, chanceNoPaths)
	case 2:
		o.Path = one(r, chanceGoodPaths)
	case 3:
		o.Value = valued(r.Intn(40))
	case 4:
		o.Kind = uint8(r.Intn(4))
		o.Path = some(r, r.Intn(4), "ab/\x00") + "/" + some(r, r.Intn(26), "ab/\x00\xff")
		o.Value = some(r, r.Intn(40), "ab\x00\xff")
	}
	return o
}

// chanceOps are up to five of them.
func chanceOps(r *rand.Rand) (ops []api.Op) {
	for range r.Intn(6) {
		ops = append(ops, chanceOp(r))
	}
	return ops
}

// chanceMounts are mounts by chance, right or not.
func chanceMounts(r *rand.Rand) (l []api.Mount) {
	for range r.Intn(6) {
		l = append(l, api.Mount{Name: one(r, []string{"app", "app", "ops", "ops", "a", "web", "", "App"}), Ship: r.Intn(2) > 0})
	}
	return l
}

func TestP121Chance(t *testing.T) {
	r := rand.New(rand.NewSource(121))
	for range 50_000 {
		mays(t, chanceMounts(r), chanceOps(r)...)
		mays(t, examples(), chanceOps(r)...)
	}
}

// What is asked again is answered again, of lists that changed between what they are now: none is kept.
func TestP121Again(t *testing.T) {
	l, ops := examples(), usual()
	for range 3 {
		maysTo(t, api.OK, l, ops...)
	}
	ops[3] = put("web/a", "1")
	maysTo(t, api.ErrMount, l, ops...)
	l[1].Name = "web"
	maysTo(t, api.ErrMount, l, ops...)
	maysTo(t, api.OK, l, ops[3])
	maysTo(t, api.OK, examples(), usual()...)
}

// What is handed in stays, and what is behind it is none of it.
func TestP125May(t *testing.T) {
	for _, l := range [][]api.Mount{nil, examples(), mounts("web"), mounts("app", "app", "ops", "ops", "")} {
		for n := range 7 {
			mays(t, l, many(n)...)
		}
		for _, o := range kindsOfOps() {
			mays(t, l, o)
			mays(t, l, usual()[0], o, usual()[1])
		}
	}
	// The mounts' spare room has a mount of that name.
	maysTo(t, api.ErrMount, examples(), spareOp)
	room := slices.Repeat([]api.Op{put("app", "")}, 6)
	if e := batch.May(examples(), room[:0]); e != api.ErrArg {
		t.Errorf("none, with room: %d", e)
	}
}
