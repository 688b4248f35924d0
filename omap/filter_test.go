package omap_test

import (
	"slices"
	"strings"
	"testing"

	"twinlock/api"
	"twinlock/omap"
)

// some is a map of paths of three mounts, one of which begins with another one's name.
func some(t *testing.T) *asked {
	t.Helper()
	return with(t, pair("ops/b", "2"), pair("apps/a", "4"), pair("app/c", "3"), pair("app/\xff", valued(32)), pair("ops/a", ""))
}

// Mounts that ship all, some or none, that are none, and that are not right.
func TestP134Filter(t *testing.T) {
	app, apps, ops := []string{"app/c", "app/\xff"}, []string{"apps/a"}, []string{"ops/a", "ops/b"}
	for _, x := range []struct {
		l    []api.Mount
		want []string
	}{
		{mounts("app!", "apps!", "ops!"), slices.Concat(app, apps, ops)},
		{mounts("ops!", "web!", "apps!", "app!"), slices.Concat(app, apps, ops)},
		{mounts("app!", "apps", "ops!"), slices.Concat(app, ops)},
		{mounts("app!", "ops"), app},
		{mounts("app!"), app},
		{mounts("apps!"), apps},
		{mounts("app", "ops!"), ops},
		{mounts("app", "apps", "ops"), nil},
		{mounts("web!"), nil},
		{mounts("ap!"), nil},
		{nil, nil},
		{[]api.Mount{}, nil},
		// Lists that are not right: of mounts of one name the first one counts.
		{mounts("app!", "app", "ops", "ops!"), app},
		{mounts("app", "app!", "ops!", "ops"), ops},
		{mounts("", "!", "App!", "app/!", "app/c!", "ninechars!"), nil},
		{mounts("!", "app!", "App!", "ops"), app},
		{mounts("a", "b", "c", "d", "e!", "app!", "apps!", "ops!"), slices.Concat(app, apps, ops)},
	} {
		a := some(t)
		b := a.filter(t, x.l)
		if l := b.m.List(""); !slices.Equal(l, x.want) {
			t.Errorf("Filter(%v): %q, not %q", x.l, l, x.want)
		}
		b.looks(t)
		a.looks(t)
		// Filter twice is Filter once.
		b.sames(t, b.filter(t, x.l), true)
		none := start(t).filter(t, x.l)
		none.looks(t)
		none.sames(t, start(t), true)
	}
}

// The first map stays as it is, and the new one goes its own way, whatever is done to either.
func TestP134FilterOwn(t *testing.T) {
	for _, l := range [][]api.Mount{mounts("app!", "apps!", "ops!"), examples(), mounts("app", "ops"), nil} {
		a := some(t)
		b := a.filter(t, l)
		a.doTo(t, api.OK, put("app/c", "other"), del("ops/a"), put("app/new", "1"))
		b.stands(t)
		b.doTo(t, api.OK, del("app/c"), put("ops/b", "own"), put("web/w", "1"))
		a.stands(t)
		b.doTo(t, api.OK, del("ops/b"), put("app/c", "again"))
		a.doTo(t, api.OK, del("app/c"))
		a.looks(t)
		b.looks(t)
		// Two of one map don't know of one another, either.
		c, d := a.filter(t, l), a.filter(t, l)
		c.doTo(t, api.OK, put("app/c", "c"))
		d.looks(t)
		a.looks(t)
	}
}

// Of maps that are full, by each number of paths that are shipped.
func TestP134FilterFull(t *testing.T) {
	for n := range maxKeys + 1 {
		var l []api.Pair
		for i, x := range many(maxKeys) {
			name := "app"
			if i >= n {
				name = "ops"
			}
			_, key, _ := strings.Cut(x.Path, "/")
			l = append(l, pair(name+"/"+key, x.Value))
		}
		a := with(t, l...)
		b := a.filter(t, examples())
		if b.m.Len() != n {
			t.Errorf("%d are left, not %d", b.m.Len(), n)
		}
		// There is room for others again, and not for more.
		for range maxKeys - n {
			b.doTo(t, api.OK, put(numbered(100+b.m.Len()), "1"))
		}
		b.doTo(t, api.ErrFull, put("web/more", "1"))
		a.doTo(t, api.ErrFull, put("web/more", "1"))
	}
}

// What is handed in may change behind the call.
func TestP134Memory(t *testing.T) {
	name := []byte("app")
	l := []api.Mount{{Name: textOn(name), Ship: true}, {Name: "ops"}}
	a := some(t)
	b := &asked{a.m.Filter(l), a.h.filter(examples())}
	copy(name, "ops")
	l[1] = api.Mount{Name: "apps", Ship: true}
	b.looks(t)
	a.looks(t)
}

// Twins have the same, and go their own ways.
func TestP134Twin(t *testing.T) {
	for _, n := range []int{0, 1, 5, 46, 47, 48} {
		a := with(t, many(n)...)
		b := a.twin(t)
		b.looks(t)
		a.doTo(t, api.OK, put(numbered(0), "a"), put("web/a", "1"), del("web/a"))
		b.stands(t)
		b.doTo(t, api.OK, del(numbered(0)))
		a.stands(t)
		b.doTo(t, api.OK, put("web/b", "b"))
		a.stands(t)
		c := b.twin(t)
		b.doTo(t, api.OK, del("web/b"), put("web/c", "c"))
		c.doTo(t, api.OK, del("web/b"), put("web/d", "d"))
		a.doTo(t, api.OK, del(numbered(0)))
		for _, x := range []*asked{a, b, c} {
			x.looks(t)
		}
		// What is refused by one is no matter of the other.
		d := with(t, many(48)...)
		f := d.twin(t)
		d.doTo(t, api.ErrFull, put("web/a", "1"))
		f.doTo(t, api.OK, del(numbered(7)), put("web/a", "1"))
		d.looks(t)
		d.doTo(t, api.ErrFull, put("web/a", "1"))
	}
	// Twins of one map, and of one another, each with what is its own.
	l := []*asked{some(t)}
	for i := range 40 {
		l = append(l, l[i/2].twin(t))
		l[i].doTo(t, api.OK, put(numbered(i), "1"), del(numbered(i/2)))
	}
	for _, x := range l {
		x.stands(t)
	}
}

// Maps that differ in one path, in one value, in how many.
func TestP134Same(t *testing.T) {
	for _, n := range []int{1, 2, 5, 47, 48} {
		a := with(t, many(n)...)
		a.sames(t, a, true)
		a.sames(t, with(t, many(n)...), true)
		for _, i := range []int{0, n / 2, n - 1} {
			for _, x := range []api.Pair{
				pair(many(n)[i].Path, "other"),
				pair(many(n)[i].Path, many(n)[i].Value[:len(many(n)[i].Value)/2]+"!"),
				pair(many(n)[i].Path+"x", many(n)[i].Value),
				pair("web/other", many(n)[i].Value),
				pair("no"+many(n)[i].Path[2:], many(n)[i].Value),
			} {
				a.sames(t, with(t, at(n, i, x)...), false)
			}
		}
		a.sames(t, with(t, many(n)[1:]...), false)
		a.sames(t, with(t, many(n)[:n-1]...), false)
		a.sames(t, start(t), false)
	}
	// With a value that is empty, and without the path.
	a := with(t, pair("app/a", ""))
	a.sames(t, start(t), false)
	a.sames(t, with(t, pair("app/b", "")), false)
	a.sames(t, with(t, pair("app/a", ""), pair("app/b", "")), false)
	a.sames(t, with(t, pair("app/a", "\x00")), false)
	// The same values, at one another's paths.
	with(t, pair("app/a", "1"), pair("app/b", "2")).sames(t, with(t, pair("app/a", "2"), pair("app/b", "1")), false)
	with(t, pair("app/a", "1"), pair("app/b", "2")).sames(t, with(t, pair("app/b", "2"), pair("app/a", "1")), true)
	// The same bytes, cut in other places.
	with(t, pair("app/a", "b1")).sames(t, with(t, pair("app/ab", "1")), false)
}

// Maps of one content that came about in other ways.
func TestP134SameWays(t *testing.T) {
	ways := []*asked{with(t, pair("app/c", "3"), pair("ops/b", "2"))}
	add := func(a *asked, l ...[]api.Op) {
		for _, ops := range l {
			a.doTo(t, api.OK, ops...)
		}
		ways = append(ways, a)
	}
	b, c := put("ops/b", "2"), put("app/c", "3")
	add(start(t), []api.Op{b, c})
	add(start(t), []api.Op{c, b})
	add(start(t), []api.Op{c}, nil, []api.Op{b})
	add(start(t), []api.Op{put("app/a", "1"), b, del("app/a"), c})
	add(start(t), []api.Op{put("app/c", "1"), put("ops/b", "1")}, []api.Op{b, c}, []api.Op{b, b, b, b})
	add(start(t), []api.Op{del("app/c"), c, del("ops/b"), b})
	add(with(t, many(46)...).filter(t, nil), []api.Op{b, c})
	add(with(t, pair("web/x", "1"), pair("app/c", "3"), pair("ops/b", "2")).filter(t, mounts("app!", "ops!")))
	add(ways[0].twin(t))
	add(ways[0].twin(t), []api.Op{del("app/c")}, []api.Op{c})
	full := with(t, many(48)...)
	for _, x := range many(48) {
		full.doTo(t, api.OK, del(x.Path))
	}
	add(full, []api.Op{c, b})
	for _, x := range ways {
		for _, y := range ways {
			x.sames(t, y, true)
		}
	}
	for _, x := range ways {
		x.doTo(t, api.OK, put("app/c", "4"))
		x.sames(t, with(t, pair("app/c", "3"), pair("ops/b", "2")), false)
	}
}

// A nil map in every call.
func TestP135(t *testing.T) {
	var m *omap.Map
	a := &asked{m: m}
	a.looks(t)
	for _, ops := range [][]api.Op{nil, {}, {put("app/a", "1")}, {del("app/a")}, {put("app", "1")}, {{Kind: 3}}, {put("app/a", valued(33))}, {{Kind: 2, Path: "app/a", Value: "1"}}, slices.Repeat([]api.Op{put("app/a", "1")}, 5), slices.Repeat([]api.Op{put("app/a", "1")}, huge)} {
		a.doTo(t, api.ErrNil, ops...)
	}
	for _, l := range wrongOps() {
		for _, o := range l {
			a.doTo(t, api.ErrNil, o, o)
		}
	}
	if m.Twin() != nil {
		t.Error("Twin of nil is a map")
	}
	for _, l := range [][]api.Mount{nil, examples(), mounts("", "!", "app", "app!")} {
		b := &asked{m: m.Filter(l)}
		b.looks(t)
		// It is another map, and so it takes what others take.
		b.doTo(t, api.OK, put("app/a", "1"))
		b.looks(t)
	}
	a.looks(t)
}

// A nil map has nothing: it is the same as one without paths, and as nothing else.
func TestP135Same(t *testing.T) {
	none := &asked{}
	none.sames(t, none, true)
	none.sames(t, &asked{m: none.m.Twin()}, true)
	none.sames(t, start(t), true)
	none.sames(t, with(t), true)
	none.sames(t, some(t).filter(t, nil), true)
	emptied := start(t)
	emptied.doTo(t, api.OK, put("app/a", "1"))
	none.sames(t, emptied, false)
	emptied.doTo(t, api.OK, del("app/a"))
	none.sames(t, emptied, true)
	none.sames(t, some(t), false)
	none.sames(t, with(t, pair("app/a", "")), false)
	none.sames(t, with(t, many(48)...), false)
}

// A Map that neither New nor Of made is not nil: it is one without paths. One that is copied by value goes its own way.
func TestP135Zero(t *testing.T) {
	var zero omap.Map
	for _, m := range []*omap.Map{{}, new(omap.Map), &zero} {
		a := &asked{m: m}
		a.looks(t)
		a.sames(t, start(t), true)
		a.sames(t, &asked{}, true)
		a.filter(t, examples()).doTo(t, api.OK, put("app/b", "2"))
		b := a.twin(t)
		a.doTo(t, api.ErrKey, put("app", "1"))
		a.doTo(t, api.OK, del("app/a"))
		a.doTo(t, api.OK, put("app/a", "1"), put("ops/b", "2"))
		b.looks(t)
		b.doTo(t, api.OK, put("app/b", "2"))
		a.looks(t)
	}
	a := some(t)
	twin := *a.m
	b := &asked{&twin, slices.Clone(a.h)}
	a.doTo(t, api.OK, put("app/new", "1"), del("ops/a"))
	b.doTo(t, api.OK, put("app/c", "other"), del("ops/b"))
	a.looks(t)
	b.looks(t)
}
