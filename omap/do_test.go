package omap_test

import (
	"math/rand"
	"slices"
	"testing"

	"twinlock/api"
	"twinlock/omap"
)

// The chapter's examples, call by call.
func TestExamples(t *testing.T) {
	m := omap.New()
	if e := m.Do([]api.Op{put("app/a", "1"), put("ops/b", "2"), del("app/a"), put("app/c", "3")}); e != api.OK {
		t.Fatalf("Do: %d", e)
	}
	if l := m.All(); !slices.Equal(l, []api.Pair{{Path: "app/c", Value: "3"}, {Path: "ops/b", Value: "2"}}) {
		t.Errorf("All: %v", l)
	}
	if l := m.List("app/"); !slices.Equal(l, []string{"app/c"}) {
		t.Errorf("List: %v", l)
	}
	if v, ok := m.Get("app/a"); v != "" || ok {
		t.Errorf("Get: %q, %v", v, ok)
	}
	if l := m.Filter(examples()).All(); !slices.Equal(l, []api.Pair{{Path: "app/c", Value: "3"}}) {
		t.Errorf("Filter: %v", l)
	}
	if e := m.Do([]api.Op{put("App/x", "1")}); e != api.ErrKey {
		t.Errorf("Do of App/x: %d", e)
	}
	if e := m.Do([]api.Op{put("app/a", "1"), put("app/b", "1"), put("app/c", "1"), put("app/d", "1"), put("app/e", "1")}); e != api.ErrLong {
		t.Errorf("Do of five: %d", e)
	}
	if m.Len() != 2 {
		t.Errorf("%d paths", m.Len())
	}
}

// Of no operation, of each number that may be, and of more.
func TestP132Count(t *testing.T) {
	ops := []api.Op{put("app/a", "1"), put("ops/b", "2"), del("app/a"), put("app/c", "3")}
	for n := range 5 {
		a := start(t)
		a.doTo(t, api.OK, ops[:n]...)
		a.looks(t)
		for _, keys := range []int{46, 48} {
			with(t, many(keys)...).do(t, ops[:n]...)
		}
	}
	for _, n := range []int{0, 1, 47, 48} {
		a := with(t, many(n)...)
		if e := a.m.Do(nil); e != api.OK {
			t.Errorf("Do(nil): %d", e)
		}
		if e := a.m.Do([]api.Op{}); e != api.OK {
			t.Errorf("Do(none): %d", e)
		}
		a.stands(t)
		for _, n := range []int{5, 6, 8, 48, 49, 255, 256, 256 + 4, 1 << 16, huge} {
			for _, o := range []api.Op{put("app/a", "1"), del("app/a"), del("no/path"), put("app", "1"), {Kind: 3}} {
				e := a.m.Do(slices.Repeat([]api.Op{o}, n))
				if e != api.ErrLong {
					t.Errorf("Do of %d: %d", n, e)
				}
			}
		}
		a.stands(t)
	}
}

// wrongOps are operations that may not be, and why.
func wrongOps() map[api.Errno][]api.Op {
	l := map[api.Errno][]api.Op{
		api.ErrKind: {{Kind: 0}, {Kind: 3}, {Kind: 255}, {Kind: 0, Path: "app/a", Value: "1"}, {Kind: 3, Path: "app/a", Value: "1"}, {Kind: 255, Path: "app/a"}, {Kind: 3, Path: "app", Value: valued(33)}, {Kind: 0, Path: numbered(0)}},
		api.ErrLong: {put("app/a", valued(33)), put("app/a", valued(huge)), put(numbered(0), valued(33)), {Kind: 2, Path: numbered(0), Value: valued(33)}},
		api.ErrArg:  {{Kind: 2, Path: "app/a", Value: "1"}, {Kind: 2, Path: numbered(0), Value: "\x00"}, {Kind: 2, Path: numbered(1), Value: valued(32)}},
	}
	for _, p := range noPaths() {
		l[api.ErrKey] = append(l[api.ErrKey], put(p, ""), put(p, "1"), del(p), put(p, valued(33)), api.Op{Kind: 2, Path: p, Value: "1"})
	}
	return l
}

// With one operation that may not be none is done, wherever it stands among others that could be done.
func TestP132Wrong(t *testing.T) {
	others := []api.Op{put("web/new", "1"), del(numbered(0)), put(numbered(1), "changed")}
	for _, n := range []int{0, 2, 46, 47, 48} {
		a := with(t, many(n)...)
		for want, l := range wrongOps() {
			for _, o := range l {
				a.doTo(t, want, o)
				for i := range 4 {
					a.doTo(t, want, slices.Insert(slices.Clone(others), i, o)...)
				}
			}
		}
		if n == 2 || n == 48 {
			a.looks(t)
		}
	}
}

// Of two operations that may not be the first one's error is told.
func TestP132First(t *testing.T) {
	a := with(t, many(48)...)
	wrong := wrongOps()
	for e, l := range wrong {
		for _, more := range wrong {
			for _, o := range more {
				a.doTo(t, e, l[0], o)
				a.doTo(t, e, del(numbered(0)), l[1], put("web/new", "1"), o)
			}
		}
	}
}

// Right's error goes ahead of ErrFull.
func TestP132Order(t *testing.T) {
	a := with(t, many(48)...)
	for want, l := range wrongOps() {
		for _, o := range l[:3] {
			a.doTo(t, want, put("web/a", ""), put("web/b", ""), o)
			a.doTo(t, want, o, put("web/a", ""))
		}
	}
	a.doTo(t, api.ErrLong, put("web/a", ""), put("web/b", ""), put("web/c", ""), put("web/d", ""), put("web/e", ""))
	a.doTo(t, api.ErrFull, put("web/a", ""))
}

// Kinds, all of them.
func TestP132Kinds(t *testing.T) {
	for k := range 256 {
		a := with(t, many(3)...)
		for _, p := range []string{"web/new", numbered(1), "app"} {
			for _, v := range []string{"", "1", valued(32), valued(33)} {
				a.do(t, api.Op{Kind: uint8(k), Path: p, Value: v})
			}
		}
	}
}

// Puts give each path its value, of each length; what else is there stays.
func TestP132Put(t *testing.T) {
	a := start(t)
	for i, p := range goodPaths() {
		a.doTo(t, api.OK, put(p, valued(i)))
	}
	a.looks(t)
	for n := range maxValue + 1 {
		for _, p := range []string{"app/a", longest(), "app/\xff"} {
			a.doTo(t, api.OK, put(p, valued(n)))
		}
	}
	for _, v := range []string{"", "\x00", "\xff", "x", ""} {
		a.doTo(t, api.OK, put("app/a", v))
		if got, ok := a.m.Get("app/a"); got != v || !ok {
			t.Fatalf("Get: %q, %v", got, ok)
		}
	}
	// The last put counts.
	a.doTo(t, api.OK, put("app/a", "1"), put("app/a", "2"), put("app/a", "3"), put("app/a", "4"))
	if v, ok := a.m.Get("app/a"); v != "4" || !ok {
		t.Fatalf("Get: %q, %v", v, ok)
	}
	a.doTo(t, api.OK, put("app/a", ""), put("app/aa", "2"), put("apps/a", "3"), put("ap/a", "4"))
	a.looks(t)
}

// Deletes take paths away, and no others; of one that is not there nothing becomes.
func TestP132Delete(t *testing.T) {
	a := start(t)
	for _, p := range goodPaths() {
		a.doTo(t, api.OK, del(p))
	}
	if a.m.Len() != 0 {
		t.Fatal("a delete put something")
	}
	for _, p := range goodPaths() {
		a.doTo(t, api.OK, put(p, ""))
	}
	for _, p := range []string{"app/none", "web/y", "opsb/a"} {
		a.doTo(t, api.OK, del(p))
	}
	a.looks(t)
	for _, p := range goodPaths() {
		a.doTo(t, api.OK, del(p))
		a.doTo(t, api.OK, del(p), del(p))
	}
	if a.m.Len() != 0 {
		t.Fatal("paths are left")
	}
	a.sames(t, start(t), true)
	// A put and a delete of one path, in either row.
	a.doTo(t, api.OK, put("app/a", "1"), del("app/a"))
	if _, ok := a.m.Get("app/a"); ok {
		t.Fatal("app/a is there")
	}
	a.doTo(t, api.OK, del("app/a"), put("app/a", "2"))
	if v, ok := a.m.Get("app/a"); v != "2" || !ok {
		t.Fatalf("Get: %q, %v", v, ok)
	}
	a.doTo(t, api.OK, put("app/a", "3"), del("app/a"), put("app/a", "4"), del("app/a"))
	a.doTo(t, api.OK, del("app/a"), put("app/a", "5"), del("app/a"), put("app/a", "6"))
	a.looks(t)
}

// What there would be behind all operations is what counts, not what there would be between them.
func TestP132Full(t *testing.T) {
	there, also := numbered(0), numbered(45)
	a := with(t, many(48)...)
	for _, p := range []string{"web/a", "app/zz", "a/x", longest()} {
		a.doTo(t, api.ErrFull, put(p, "1"))
		a.doTo(t, api.ErrFull, put(there, "1"), put(p, "1"))
		a.doTo(t, api.ErrFull, put(p, "1"), put(there, "1"))
		a.doTo(t, api.ErrFull, put(p, "1"), put(p, "2"))
		a.doTo(t, api.ErrFull, del("no/path"), put(p, "1"), del("no/path"))
		a.doTo(t, api.ErrFull, del(there), put(there, "1"), put(p, "1"))
		a.doTo(t, api.ErrFull, put(p, "1"), del(there), put(there, "2"))
		a.doTo(t, api.ErrFull, del(p), put(p, "1"))
		a.doTo(t, api.ErrFull, del(there), put("web/b", "1"), put(p, "1"))
		a.doTo(t, api.ErrFull, put("web/b", "1"), put(p, "1"), del(there))
	}
	a.looks(t)
	// With as many as there may be, all these are done.
	for _, ops := range [][]api.Op{
		{put(there, "2")},
		{del("no/path")},
		{put("web/a", "1"), del("web/a")},
		{put("web/a", "1"), put("web/b", "1"), del("web/b"), del("web/a")},
		{del(there), put("web/a", "1")},
		{put(there, "1"), del("web/a")},
		{put("web/a", "1"), del(there)},
		{put(there, "1"), put("web/a", "1"), del("web/a")},
		{put("web/b", "1"), put("web/c", "1"), del(there), del("web/a")},
	} {
		b := a.twin(t)
		for range 3 {
			b.do(t, ops...)
		}
		b = with(t, many(48)...)
		b.do(t, ops...)
	}
	b := with(t, many(48)...)
	b.doTo(t, api.OK, put("web/a", "1"), put("web/b", "2"), del(there), del(also))
	b.doTo(t, api.OK, del("web/a"), del("web/b"), put(there, "3"), put(also, "4"))
	b.doTo(t, api.ErrFull, put("web/a", "1"))
	b.doTo(t, api.OK, del(there))
	b.doTo(t, api.OK, put("web/a", "1"))
	b.doTo(t, api.ErrFull, put(there, "1"))
}

// To maps of few paths more than there may be, and of many: all rows of up to four operations out of some.
func TestP132Edges(t *testing.T) {
	some := []api.Op{put("web/a", "1"), put("web/b", "2"), put(numbered(0), "3"), del(numbered(0)), del("web/a"), del("no/path")}
	for _, n := range []int{0, 1, 2, 44, 45, 46, 47, 48} {
		full, done := 0, 0
		a := with(t, many(n)...)
		first := a.h
		for k := range 5 {
			rows(k, some, func(ops []api.Op) {
				e := a.do(t, ops...)
				switch e {
				case api.OK:
					done++
				case api.ErrFull:
					full++
				}
				if len(a.h) > len(first) {
					a = &asked{mapOf(t, first), first}
				}
			})
		}
		if done < 100 || (full > 100) != (n > 46) {
			t.Errorf("of %d paths: %d were done, %d were too many", n, done, full)
		}
	}
	// Four new ones, to maps that have room for some.
	for n := 40; n <= 48; n++ {
		for k := 1; k <= 4; k++ {
			a := with(t, many(n)...)
			want := api.OK
			if n+k > 48 {
				want = api.ErrFull
			}
			a.doTo(t, want, puts([]api.Pair{pair("web/a", "1"), pair("web/b", "2"), pair("a/x", ""), pair(longest(), valued(32))}[:k])...)
		}
	}
}

// mapOf is a map of what a history tells.
func mapOf(t *testing.T, h history) *omap.Map {
	t.Helper()
	m, e := omap.Of(h.all())
	if e != api.OK {
		t.Fatalf("Of: %d", e)
	}
	return m
}

// One path at a time, up to what there may be, and down again.
func TestP132Grow(t *testing.T) {
	a := start(t)
	for i := range 60 {
		want := api.OK
		if i >= 48 {
			want = api.ErrFull
		}
		a.doTo(t, want, put(numbered(i), valued(i%33)))
	}
	for i := range 60 {
		a.doTo(t, api.OK, del(numbered(59-i)))
	}
	if a.m.Len() != 0 {
		t.Errorf("%d paths are left", a.m.Len())
	}
	for i := 0; i < 60; i += 4 {
		a.do(t, put(numbered(i), "1"), put(numbered(i+1), "2"), put(numbered(i+2), "3"), put(numbered(i+3), "4"))
	}
	a.looks(t)
}

// What is handed in may change behind the call: the list, and even the texts' bytes.
func TestP132Memory(t *testing.T) {
	a := start(t)
	b := []byte("app/a1234ops/bweb/c5678")
	ops := []api.Op{put(textOn(b[:5]), textOn(b[5:9])), del(textOn(b[9:14])), put(textOn(b[14:19]), textOn(b[19:]))}
	if e := a.m.Do(ops); e != api.OK {
		t.Fatal(e)
	}
	copy(b, "xxx/yxxxxxxx/zyyy/xyyyy")
	clear(ops)
	a.h = history{put("app/a", "1234"), put("web/c", "5678")}
	a.looks(t)
	// A path that is there already.
	copy(b, "app/a5678")
	if e := a.m.Do([]api.Op{put(textOn(b[:5]), textOn(b[5:9]))}); e != api.OK {
		t.Fatal(e)
	}
	copy(b, "xxx/yxxxx")
	a.h = append(a.h, put("app/a", "5678"))
	a.looks(t)
	a.doTo(t, api.OK, del("app/a"))
}

// Operations in one list with another one: the row of both is the row of what is done.
func TestP132Rows(t *testing.T) {
	for seed := range int64(100) {
		r := rand.New(rand.NewSource(seed))
		a, b := start(t), start(t)
		for range 20 {
			var ops []api.Op
			for range 4 {
				p := one(r, goodPaths()[:6])
				ops = append(ops, one(r, []api.Op{put(p, valued(r.Intn(33))), put(p, ""), del(p)}))
			}
			a.doTo(t, api.OK, ops...)
			for _, o := range ops {
				b.doTo(t, api.OK, o)
			}
			a.sames(t, b, true)
		}
	}
}
