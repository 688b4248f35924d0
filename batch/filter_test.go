package batch_test

import (
	"math"
	"math/rand"
	"slices"
	"strings"
	"testing"

	"twinlock/api"
	"twinlock/batch"
)

func TestP124Examples(t *testing.T) {
	filtersTo(t, examples(), of(3, 1, put("app/a", "1"), del("ops/b")), of(3, 1, put("app/a", "1")))
}

// Mounts that ship all, some or none of the operations, and mounts that are none.
func TestP124Ships(t *testing.T) {
	u := usual()
	for _, x := range []struct {
		l    []api.Mount
		want []api.Op
	}{
		{mounts("app!", "ops!"), u},
		{mounts("app!", "ops"), []api.Op{u[0], u[3]}},
		{mounts("app", "ops!"), []api.Op{u[1], u[2]}},
		{mounts("app", "ops"), nil},
		{mounts("app!"), []api.Op{u[0], u[3]}},
		{mounts("ops!"), []api.Op{u[1], u[2]}},
		{mounts("web!"), nil},
		{nil, nil},
		{[]api.Mount{}, nil},
		// Lists that are not right: of mounts of one name the first one counts.
		{mounts("app!", "app", "ops", "ops!"), []api.Op{u[0], u[3]}},
		{mounts("app", "app!", "ops!", "ops"), []api.Op{u[1], u[2]}},
		{mounts("", "!", "App!", "app/!", "app/a!", "ops/\xff.c!", "ninechars!"), nil},
		{mounts("a", "b", "c", "d", "app!", "ops!"), u},
		{mounts("!", "app!", "App!", "ops"), []api.Op{u[0], u[3]}},
	} {
		filtersTo(t, x.l, of(5, 6, u...), of(5, 6, x.want...))
		// Their row is kept, whatever it is.
		turned := slices.Clone(u)
		slices.Reverse(turned)
		want := slices.Clone(x.want)
		slices.Reverse(want)
		filtersTo(t, x.l, of(5, 6, turned...), of(5, 6, want...))
	}
}

// Of no operation nothing is left but the numbers, and they stay, whatever they are.
func TestP124Numbers(t *testing.T) {
	for _, l := range [][]api.Mount{nil, examples(), mounts("app", "ops"), mounts("", "!")} {
		for _, i := range edges() {
			for _, epoch := range edges() {
				filtersTo(t, l, of(i, epoch), of(i, epoch))
				filtersTo(t, l, api.Batch{Index: i, Epoch: epoch, Ops: []api.Op{}}, of(i, epoch))
				filters(t, l, of(i, epoch, usual()...))
				filtersTo(t, l, of(i, epoch, del("no/x")), of(i, epoch))
			}
		}
	}
}

// What is no path, or of no mount, is not shipped, wherever it stands.
func TestP124Paths(t *testing.T) {
	all := mounts("app!", "ops!")
	for _, p := range append(noPaths(), "web/x", "ap/x", "apps/x", "op/x", "a/x") {
		name, _, _ := strings.Cut(p, "/")
		for _, o := range []api.Op{put(p, ""), put(p, "1"), del(p)} {
			for n := 1; n <= 4; n++ {
				for i := range n {
					ops := at(n, i, o)
					filtersTo(t, all, of(1, 1, ops...), of(1, 1, slices.Delete(slices.Clone(ops), i, i+1)...))
				}
			}
			filtersTo(t, nil, of(1, 1, o), of(1, 1))
			filtersTo(t, []api.Mount{{Name: p, Ship: true}}, of(1, 1, o), of(1, 1))
			filters(t, []api.Mount{{Name: name, Ship: true}}, of(1, 1, o, o))
		}
	}
	for _, p := range goodPaths() {
		name, _, _ := strings.Cut(p, "/")
		for _, o := range []api.Op{put(p, ""), put(p, "1"), put(p, valued(32)), del(p)} {
			filtersTo(t, mounts(name+"!"), of(1, 1, o), of(1, 1, o))
			filtersTo(t, mounts(name), of(1, 1, o), of(1, 1))
			filtersTo(t, mounts("no!", name+"!"), of(1, 1, o, del("no/x"), o, del("nope/x")), of(1, 1, o, del("no/x"), o))
		}
	}
}

// An operation that is shipped stays whole: its Kind, its path, its value, whether it may be or not.
func TestP124Ops(t *testing.T) {
	for k := range 256 {
		for _, v := range []string{"", "1", "\x00", valued(32), valued(33)} {
			o, p := api.Op{Kind: uint8(k), Path: "app/a", Value: v}, api.Op{Kind: uint8(k), Path: "ops/a", Value: v}
			filtersTo(t, examples(), of(1, 1, p, o, p, o), of(1, 1, o, o))
		}
	}
	o := api.Op{Kind: 7, Path: "app/a", Value: valued(huge)}
	filtersTo(t, examples(), of(1, 1, o), of(1, 1, o))
	// More of them than there may be, and the same one again.
	for _, n := range []int{5, 6, 8, 257} {
		filters(t, examples(), of(1, 1, many(n)...))
		filtersTo(t, mounts("app!", "ops!"), of(1, 1, many(n)...), of(1, 1, many(n)...))
		filtersTo(t, mounts("app", "ops"), of(1, 1, many(n)...), of(1, 1))
	}
	x := put("app/a", "1")
	filtersTo(t, examples(), of(1, 1, x, x, x, x), of(1, 1, x, x, x, x))
}

// All lists of up to four operations, shipped, not shipped, of no mount, of no path.
func TestP124All(t *testing.T) {
	some := []api.Op{put("app/a", "1"), del("app/b"), put("ops/a", "2"), del("web/a"), put("app", "3")}
	for n := range 5 {
		lists(n, some, func(ops []api.Op) {
			for _, l := range [][]api.Mount{examples(), mounts("ops!", "web!"), mounts("app", "app!"), nil} {
				filters(t, l, of(1, 1, ops...))
			}
		})
	}
}

func TestP124Chance(t *testing.T) {
	r := rand.New(rand.NewSource(124))
	for range 50_000 {
		filters(t, chanceMounts(r), chanceBatch(r))
	}
}

// What Filter tells is its own, its texts, too, whatever becomes of the bytes that were handed in.
func TestP125Filter(t *testing.T) {
	name, p, v := []byte("app"), []byte("app/a"), []byte("12")
	l := []api.Mount{{Name: textOn(name), Ship: true}}
	b := of(1, 2, put(textOn(p), textOn(v)), del(textOn(p)))
	got := batch.Filter(l, b)
	clear(name)
	clear(p)
	clear(v)
	if want := of(1, 2, put("app/a", "12"), del("app/a")); !sameOf(got, want) {
		t.Errorf("%q", show(got))
	}
	// The answer has no room that is the batch's, of whatever length and room that is.
	for n := range 8 {
		for room := range 8 {
			ops := append(make([]api.Op, 0, n+room), many(n)...)
			got := batch.Filter(mounts("app!", "ops!"), of(1, 1, ops...))
			_ = append(got.Ops, spareOp)
			for i := range got.Ops {
				got.Ops[i] = spareOp
			}
			if !slices.Equal(ops, many(n)) || !slices.Equal(ops[:n+room], append(many(n), make([]api.Op, room)...)) {
				t.Fatalf("%d operations, room for %d more: %q", n, room, show(of(1, 1, ops[:n+room]...)))
			}
		}
	}
}

// What is asked again is answered again, of lists that changed between what they are now: none is kept.
func TestP124Again(t *testing.T) {
	l, b := examples(), of(1, 1, usual()...)
	for range 3 {
		filtersTo(t, l, b, of(1, 1, usual()[0], usual()[3]))
	}
	l[0].Ship = false
	filtersTo(t, l, b, of(1, 1))
	l[1].Ship = true
	filtersTo(t, l, b, of(1, 1, usual()[1], usual()[2]))
	b.Ops[1].Path = "app/b"
	filtersTo(t, l, b, of(1, 1, usual()[2]))
	b.Index = 2
	filtersTo(t, l, b, of(2, 1, usual()[2]))
	if !slices.Equal(b.Ops, []api.Op{usual()[0], del("app/b"), usual()[2], usual()[3]}) {
		t.Errorf("%q", show(b))
	}
}

// others are batches that differ from b in one field alone, or in the number or the row of operations.
func others(b api.Batch) (l []api.Batch) {
	for _, n := range []int{b.Index + 1, b.Index - 1, -b.Index, b.Index ^ math.MinInt, b.Index + 1<<32, b.Index + 256} {
		if n != b.Index {
			c := b
			c.Index = n
			l = append(l, c)
		}
	}
	for _, n := range []int{b.Epoch + 1, b.Epoch - 1, -b.Epoch, b.Epoch ^ math.MinInt, b.Epoch + 1<<32, b.Epoch + 256} {
		if n != b.Epoch {
			c := b
			c.Epoch = n
			l = append(l, c)
		}
	}
	if b.Index != b.Epoch {
		l = append(l, api.Batch{Index: b.Epoch, Epoch: b.Index, Ops: b.Ops})
	}
	with := func(ops []api.Op) {
		if !slices.Equal(ops, b.Ops) {
			l = append(l, api.Batch{Index: b.Index, Epoch: b.Epoch, Ops: ops})
		}
	}
	with(append(slices.Clone(b.Ops), put("app/a", "1")))
	with(append(slices.Clone(b.Ops), api.Op{}))
	with(append([]api.Op{{}}, b.Ops...))
	with(nil)
	for i, o := range b.Ops {
		with(slices.Delete(slices.Clone(b.Ops), i, i+1))
		with(slices.Insert(slices.Clone(b.Ops), i, o))
		with(b.Ops[:i])
		for j := range i {
			ops := slices.Clone(b.Ops)
			ops[i], ops[j] = ops[j], ops[i]
			with(ops)
		}
		for _, p := range otherOps(o) {
			ops := slices.Clone(b.Ops)
			ops[i] = p
			with(ops)
		}
	}
	return l
}

// otherOps are operations that differ from o in one field alone, or in where its texts are cut.
func otherOps(o api.Op) (l []api.Op) {
	for k := range 256 {
		p := o
		p.Kind = uint8(k)
		l = append(l, p)
	}
	for _, s := range []string{"", "x", o.Path + "x", o.Path + "\x00", strings.ToUpper(o.Path), strings.TrimSuffix(o.Path, "a")} {
		p := o
		p.Path = s
		l = append(l, p)
	}
	for _, s := range []string{"", "x", "0", o.Value + "x", o.Value + "\x00", "\x00" + o.Value, strings.TrimSuffix(o.Value, "1")} {
		p := o
		p.Value = s
		l = append(l, p)
	}
	l = append(l, api.Op{Kind: o.Kind, Path: o.Path + o.Value}, api.Op{Kind: o.Kind, Path: o.Value, Value: o.Path})
	return l
}

func TestP124Same(t *testing.T) {
	all := append(batches(), api.Batch{}, of(-1, math.MinInt, api.Op{}), of(1, 1, wrong()...), of(1, 1, many(9)...), of(0, 0, put(letters(huge), valued(huge))))
	for i, b := range all {
		samesTo(t, true, b, b)
		samesTo(t, true, b, of(b.Index, b.Epoch, slices.Clone(b.Ops)...))
		for _, o := range others(b) {
			samesTo(t, false, b, o)
		}
		for j, c := range all {
			samesTo(t, i == j, b, c)
		}
	}
}

// None is none, whatever kind of none it is; none and some are not the same.
func TestP124SameNone(t *testing.T) {
	for _, a := range [][]api.Op{nil, {}, make([]api.Op, 0, 4)} {
		for _, b := range [][]api.Op{nil, {}, make([]api.Op, 0, 4)} {
			if !batch.Same(of(1, 2, a...), of(1, 2, b...)) || !batch.Same(api.Batch{Index: 1, Epoch: 2, Ops: a}, api.Batch{Index: 1, Epoch: 2, Ops: b}) {
				t.Error("none and none")
			}
			if batch.Same(of(1, 2, a...), of(2, 1, b...)) || batch.Same(of(1, 2, a...), of(1, 3, b...)) {
				t.Error("other numbers")
			}
		}
		for _, some := range [][]api.Op{{{}}, {{}, {}}, usual(), {del("a/b")}} {
			samesTo(t, false, api.Batch{Index: 1, Epoch: 2, Ops: a}, of(1, 2, some...))
		}
	}
}

// Two operations' row counts, wherever they stand.
func TestP124SameRow(t *testing.T) {
	some := []api.Op{put("app/a", "1"), put("app/a", "2"), del("app/a")}
	var all []api.Batch
	for n := range 4 {
		lists(n, some, func(ops []api.Op) { all = append(all, of(1, 1, ops...)) })
	}
	for i, a := range all {
		for j, b := range all {
			samesTo(t, i == j, a, b)
		}
	}
}

func TestP124SameChance(t *testing.T) {
	r := rand.New(rand.NewSource(1241))
	for range 5_000 {
		b := chanceBatch(r)
		samesTo(t, true, b, of(b.Index, b.Epoch, slices.Clone(b.Ops)...))
		sames(t, b, chanceBatch(r))
		o := one(r, others(b))
		samesTo(t, false, b, o)
	}
}
