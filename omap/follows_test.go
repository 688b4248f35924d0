package omap_test

import (
	"math/rand"
	"slices"
	"strconv"
	"testing"

	"twinlock/api"
	"twinlock/batch"
	"twinlock/omap"
)

// play is a map, and the filtered one to which what batch's Filter leaves of each list is done; last is what the last operation of each path gave.
type play struct {
	mounts []api.Mount
	all    *omap.Map
	own    *omap.Map
	last   map[string]api.Op
	done   int
	full   int
	wrong  int
}

// begin is a play of a map of pairs.
func begin(t *testing.T, l []api.Mount, pairs ...api.Pair) *play {
	t.Helper()
	m, e := omap.Of(pairs)
	if e != api.OK {
		t.Fatal(e)
	}
	p := &play{mounts: l, all: m, own: m.Filter(l), last: map[string]api.Op{}}
	for _, x := range pairs {
		p.last[x.Path] = put(x.Path, x.Value)
	}
	p.holds(t)
	return p
}

// do does operations to the map, and what is left of them to the filtered one.
func (p *play) do(t *testing.T, ops ...api.Op) {
	t.Helper()
	ahead := p.all.All()
	left := batch.Filter(p.mounts, api.Batch{Index: 7, Epoch: 3, Ops: ops}).Ops
	switch e := p.all.Do(ops); e {
	case api.OK:
		if e := p.own.Do(left); e != api.OK {
			t.Fatalf("Do(%q) is OK, and of what is left, %q: %d", show(ops), show(left), e)
		}
		for _, o := range ops {
			p.last[o.Path] = o
		}
		p.done++
	default:
		if e == api.ErrFull {
			p.full++
		} else {
			p.wrong++
		}
		if p.all.Len() != len(ahead) || !slices.Equal(p.all.All(), ahead) {
			t.Fatalf("Do(%q) is %d, and has done something", show(ops), e)
		}
	}
	p.holds(t)
}

// holds asks what follows.
func (p *play) holds(t *testing.T) {
	t.Helper()
	if f := p.all.Filter(p.mounts); !omap.Same(f, p.own) || !slices.Equal(f.All(), p.own.All()) {
		t.Fatalf("filtered by %v it is %q, and of what is left of the operations %q", p.mounts, f.All(), p.own.All())
	}
	count := 0
	for path, o := range p.last {
		v, ok := p.all.Get(path)
		if v != o.Value || ok != (o.Kind == api.Put) {
			t.Fatalf("Get(%q): %q, %v; last was %q", path, v, ok, show([]api.Op{o}))
		}
		if ok {
			count++
		}
	}
	if n := p.all.Len(); n != count || n > maxKeys {
		t.Fatalf("%d paths, not %d", n, count)
	}
	for _, m := range []*omap.Map{p.all, p.own} {
		again, e := omap.Of(m.All())
		if e != api.OK || !omap.Same(again, m) || !slices.Equal(again.All(), m.All()) {
			t.Fatalf("Of(All): %d, %q, not %q", e, again.All(), m.All())
		}
	}
}

// manyMounts are lists of mounts, right and wrong ones.
func manyMounts() [][]api.Mount {
	return [][]api.Mount{nil, examples(), mounts("app!", "apps!", "ops!"), mounts("app", "ops"), mounts("ops!"), mounts("web!", "a!", "apps!"), mounts("app!", "app"), mounts("app", "app!"), mounts("", "!", "App!"), mounts("ninechars!", "a", "b", "c", "d", "ops!", "app!"), mounts(letters(8)+"!", "zzzzzzzz!")}
}

// All rows of up to four operations out of some, one by one, and at once.
func TestP136Rows(t *testing.T) {
	some := []api.Op{put("app/a", "1"), put("app/a", "2"), del("app/a"), put("ops/a", "3"), del("ops/a"), put("apps/a", "")}
	for k := range 5 {
		rows(k, some, func(ops []api.Op) {
			p, q := begin(t, examples()), begin(t, mounts("ops!", "apps!"))
			for _, o := range ops {
				p.do(t, o)
			}
			q.do(t, ops...)
			if !omap.Same(p.all, q.all) {
				t.Fatalf("%q: one by one %q, at once %q", show(ops), p.all.All(), q.all.All())
			}
		})
	}
}

// All rows of up to four operations at all edges at once: to maps that are full, or nearly so, of the longest paths and values.
func TestP136Edges(t *testing.T) {
	var l []api.Pair
	for i := range maxKeys {
		name := [3]string{"app", "ops", letters(8)}[i%3]
		key := strconv.Itoa(i) + keyed(24)
		l = append(l, pair(name+"/"+key[:24], valued(32)))
	}
	there, new1, new2 := l[0].Path, longest(), "ops/"+keyed(23)+"!"
	some := []api.Op{put(there, ""), del(there), put(new1, valued(32)), del(new1), put(new2, ""), put(new2, valued(33))}
	for _, ms := range [][]api.Mount{examples(), mounts("ops!", letters(8)+"!", "app"), nil} {
		full := 0
		for _, n := range []int{46, 47, 48} {
			for k := range 4 {
				rows(k, some, func(ops []api.Op) {
					p := begin(t, ms, l[:n]...)
					p.do(t, ops...)
					p.do(t, del(there), put(new1, "x"))
					p.do(t, put(there, "y"), put(new2, "z"), del(new1), del("no/path"))
					full += p.full
				})
			}
		}
		if full < 100 {
			t.Errorf("%d were too many", full)
		}
	}
}

// pathBy is a path, drawn by chance: of few, of many, at the edges, or none.
func pathBy(r *rand.Rand, seed int64) string {
	switch r.Intn(20) {
	case 0:
		return one(r, noPaths()[:20])
	case 1, 2, 3:
		return one(r, goodPaths())
	default:
		return numbered(r.Intn(10 + int(seed)%80))
	}
}

// opBy is an operation, drawn by chance, most of them right; more puts, if there are to be many.
func opBy(r *rand.Rand, seed int64) api.Op {
	p := pathBy(r, seed)
	if r.Intn(8) < 2+int(seed%3) {
		return del(p)
	}
	switch r.Intn(60) {
	case 0:
		return api.Op{Kind: uint8(r.Intn(256)), Path: p}
	case 1:
		return put(p, valued(33))
	case 2:
		return api.Op{Kind: api.Delete, Path: p, Value: "1"}
	default:
		return put(p, valued(r.Intn(33)))
	}
}

func TestP136Chance(t *testing.T) {
	done, full, wrong := 0, 0, 0
	for seed := range int64(120) {
		r := rand.New(rand.NewSource(seed))
		p := begin(t, manyMounts()[seed%int64(len(manyMounts()))], many(int(seed*7)%49)...)
		for range 120 {
			var ops []api.Op
			for range r.Intn(5) + r.Intn(30)/29 {
				ops = append(ops, opBy(r, seed))
			}
			p.do(t, ops...)
		}
		done, full, wrong = done+p.done, full+p.full, wrong+p.wrong
	}
	if done < 4_000 || full < 200 || wrong < 1_000 {
		t.Errorf("%d lists were done, %d were too many, %d wrong", done, full, wrong)
	}
}

// The same plays, held against all operations that were done.
func TestP136Plays(t *testing.T) {
	for seed := range int64(120) {
		r := rand.New(rand.NewSource(seed))
		a := with(t, many(int(seed*7)%49)...)
		for i := range 40 {
			var ops []api.Op
			for range r.Intn(6) {
				ops = append(ops, opBy(r, seed))
			}
			if i%4 == 0 {
				a.do(t, ops...)
				continue
			}
			b := a.twin(t)
			b.do(t, ops...)
			a.stands(t)
			// In either row, Filter and Do come to the same.
			if l := one(r, manyMounts()); len(b.h) > len(a.h) {
				c := a.filter(t, l)
				c.doTo(t, api.OK, batch.Filter(l, api.Batch{Index: 1, Epoch: 1, Ops: ops}).Ops...)
				c.sames(t, b.filter(t, l), true)
			}
			a = b
		}
		a.looks(t)
		a.sames(t, with(t, a.m.All()...), true)
	}
}

// Of what a batch's Filter leaves of a list that is refused nothing is said: it may be done. Yet filtered maps never have more than the map has.
func TestP136Refused(t *testing.T) {
	a := with(t, many(48)...)
	ops := []api.Op{put("ops/new", "1"), put("app/new", "2")}
	b := a.filter(t, examples())
	a.doTo(t, api.ErrFull, ops...)
	b.doTo(t, api.OK, batch.Filter(examples(), api.Batch{Index: 1, Epoch: 1, Ops: ops}).Ops...)
	a.looks(t)
	b.looks(t)
}
