package walk_test

import (
	"slices"
	"strings"
	"testing"

	"twinlock/api"
	"twinlock/walk"
)

// frontiers leads walks in some rows, and tells of each state on the way.
func frontiers(t *testing.T, tell func(a *asked)) {
	t.Helper()
	for _, pick := range []func(l []walk.Ask) walk.Ask{first, last, func(l []walk.Ask) walk.Ask { return l[len(l)/2] }} {
		for _, x := range []struct{ base, to []api.Pair }{
			{nil, many(3)},
			{many(48), nil},
			{each("1"), each("2")},
			{many(40), many(48)[8:]},
		} {
			a := start(t, goalOf(x.to...), x.base...)
			tell(a)
			for l := a.wants(); len(l) > 0; l = a.wants() {
				a.answers(t, pick(l))
				tell(a)
			}
			a.ends(t)
		}
	}
}

// no gives an answer that must not fit, and must change nothing.
func (a *asked) no(t *testing.T, give func() bool) {
	t.Helper()
	n := len(a.fitted)
	if give() || len(a.fitted) != n {
		t.Fatalf("behind %d answers another one fits", n)
	}
}

// Each answer fits once, and not once more.
func TestP162Twice(t *testing.T) {
	frontiers(t, func(a *asked) {
		for _, x := range a.fitted {
			a.no(t, func() bool { return a.gives(t, a.to, x.to, x.to) })
		}
		a.stands(t)
	})
}

// Left and right turned about: that fits just where both are the same.
func TestP162Turned(t *testing.T) {
	frontiers(t, func(a *asked) {
		for _, s := range a.wants() {
			if left, right := a.to.kids(s); s.Level < depth && left != right {
				a.no(t, func() bool { return a.node(t, s.Level, s.I, right, left) })
				a.no(t, func() bool { return a.node(t, s.Level, s.I, left, left) })
				a.no(t, func() bool { return a.node(t, s.Level, s.I, right, right) })
			}
		}
		a.stands(t)
	})
	a := start(t, goalOf(), pair("app/a", "1"))
	for _, s := range way(3)[:4] {
		left, right := a.to.kids(s)
		if left != right {
			t.Fatal("of no pairs the kids differ")
		}
		a.nodeTo(t, true, s.Level, s.I, right, left)
	}
	a.pageTo(t, true, 3)
}

// What the goal has at one node is no answer to another one; what the base has is none to its own.
func TestP162Others(t *testing.T) {
	frontiers(t, func(a *asked) {
		for _, s := range spots() {
			for _, to := range spots() {
				if s.Level == to.Level && a.to.nodes[s] != a.to.nodes[to] {
					a.no(t, func() bool { return a.gives(t, a.to, s, to) })
				}
			}
			a.no(t, func() bool { return a.gives(t, a.from, s, s) })
		}
		a.stands(t)
	})
}

// The goal's own answers to nodes that are not asked for, or not yet.
func TestP162Unasked(t *testing.T) {
	frontiers(t, func(a *asked) {
		asks := a.wants()
		for _, s := range spots() {
			if !slices.Contains(asks, s) {
				a.no(t, func() bool { return a.gives(t, a.to, s, s) })
			}
		}
		a.stands(t)
	})
}

// Kids and pairs of which one bit is another.
func TestP162Bits(t *testing.T) {
	a := start(t, goalOf(each("2")...), each("1")...)
	for _, s := range way(9)[:4] {
		left, right := a.to.kids(s)
		for k := range 512 {
			wrong := [2]api.Hash{left, right}
			wrong[k/256][k%256/8] ^= 1 << (k % 8)
			a.no(t, func() bool { return a.node(t, s.Level, s.I, wrong[0], wrong[1]) })
		}
		a.no(t, func() bool { return a.node(t, s.Level, s.I, api.Hash{}, api.Hash{}) })
		a.answers(t, s)
	}
	for k := range 8 {
		a.no(t, func() bool { return a.page(t, 9, pair(oneEach()[9], string([]byte{'2' ^ 1<<k}))) })
	}
	a.answers(t, leaf(9))
}

// Levels and numbers that there are not, with answers that fit elsewhere.
func TestP162NoNode(t *testing.T) {
	for answered := range 5 {
		a := start(t, goalOf(each("2")...), each("1")...)
		a.answers(t, way(6)[:answered]...)
		asks := a.wants()
		for _, s := range asks {
			for _, n := range numbers() {
				left, right := a.to.kids(s)
				if s.Level < depth && !slices.Contains(asks, walk.Ask{Level: n, I: s.I}) {
					a.no(t, func() bool { return a.node(t, n, s.I, left, right) })
				}
				if s.Level < depth && !slices.Contains(asks, walk.Ask{Level: s.Level, I: n}) {
					a.no(t, func() bool { return a.node(t, s.Level, n, left, right) })
				}
				if s.Level == depth && n != s.I {
					a.no(t, func() bool { return a.page(t, n, a.to.parts[s.I]...) })
				}
			}
		}
		for _, level := range numbers() {
			for _, i := range numbers() {
				a.no(t, func() bool { return a.node(t, level, i, api.Hash{}, api.Hash{}) })
			}
			a.no(t, func() bool { return a.page(t, level) })
		}
		a.looks(t)
	}
}

// A root of no hash, and odd ones: no kids fit. Kids of no hash do, if their Inner is wanted; then these are asked for.
func TestP162Nothing(t *testing.T) {
	for _, h := range hashes() {
		a := start(t, rooted(h), many(20)...)
		none := h == hashOf(nodeText(api.Hash{}, api.Hash{}))
		a.nodeTo(t, false, 0, 0, h, h)
		a.nodeTo(t, false, 0, 0, h, api.Hash{})
		a.nodeTo(t, none, 0, 0, api.Hash{}, api.Hash{})
		a.nodeTo(t, false, 0, 0, api.Hash{}, api.Hash{})
		for _, s := range spots() {
			a.no(t, func() bool { return a.gives(t, a.from, s, s) })
		}
		a.looks(t)
		if want := []walk.Ask{{Level: 1, I: 0}, {Level: 1, I: 1}}; none && !slices.Equal(a.w.Want(9), want) {
			t.Errorf("it asks for %v", a.w.Want(9))
		}
	}
	// The root as a leaf's hash, or a leaf's pairs as an answer to the root: neither is a node of that level.
	a := start(t, rooted(hashOf("L\x00")), many(20)...)
	for i := range buckets {
		a.pageTo(t, false, i)
	}
}

// Of kids one, the other, or both are others than the base's: just these are asked for.
func TestP162Kids(t *testing.T) {
	for _, x := range []struct {
		i    []int
		asks [][]walk.Ask
	}{
		{[]int{0}, [][]walk.Ask{{{Level: 1, I: 0}}, {{Level: 2, I: 0}}, {{Level: 3, I: 0}}, {{Level: 4, I: 0}}}},
		{[]int{15}, [][]walk.Ask{{{Level: 1, I: 1}}, {{Level: 2, I: 3}}, {{Level: 3, I: 7}}, {{Level: 4, I: 15}}}},
		{[]int{6, 7}, [][]walk.Ask{{{Level: 1, I: 0}}, {{Level: 2, I: 1}}, {{Level: 3, I: 3}}, {{Level: 4, I: 6}, {Level: 4, I: 7}}}},
		{[]int{8, 10}, [][]walk.Ask{{{Level: 1, I: 1}}, {{Level: 2, I: 2}}, {{Level: 3, I: 4}, {Level: 3, I: 5}}, {{Level: 4, I: 8}, {Level: 4, I: 10}}}},
		{[]int{1, 14}, [][]walk.Ask{{{Level: 1, I: 0}, {Level: 1, I: 1}}, {{Level: 2, I: 0}, {Level: 2, I: 3}}, {{Level: 3, I: 0}, {Level: 3, I: 7}}, {{Level: 4, I: 1}, {Level: 4, I: 14}}}},
	} {
		for _, base := range [][]api.Pair{nil, each("1")} {
			to := goalOf(base...)
			for _, i := range x.i {
				to = to.with(i, pair(oneEach()[i], "2"))
			}
			a := start(t, to, base...)
			a.answers(t, top)
			for _, asks := range x.asks {
				if l := a.w.Want(9); !slices.Equal(l, asks) {
					t.Errorf("others at %v: it asks for %v, not %v", x.i, l, asks)
				}
				a.answers(t, asks...)
			}
			a.ends(t)
		}
	}
	// Both are the base's own: then so is what is above them, and it does not fit.
	a := start(t, goalOf(each("2")...), each("1")...)
	for _, s := range way(5)[:4] {
		left, right := a.from.kids(s)
		a.nodeTo(t, false, s.Level, s.I, left, right)
		a.answers(t, s)
	}
}

// Kids that the base has too, but at other places: they are asked for.
func TestP162Elsewhere(t *testing.T) {
	base := goalOf(each("1")...)
	for _, of := range []func(i int) int{func(i int) int { return i ^ 8 }, func(i int) int { return i ^ 1 }, func(i int) int { return 15 - i }, func(i int) int { return i | 8 }} {
		to := base
		for i := range buckets {
			to = to.withLeaf(i, base.nodes[leaf(of(i))])
		}
		a := start(t, to, each("1")...)
		for l := a.wants(); len(l) > 0 && l[0].Level < depth; l = a.wants() {
			a.answers(t, l[0])
		}
		for i := range buckets {
			// The hash is the one that is wanted, but the pairs are of another bucket.
			a.pageTo(t, false, i, base.parts[of(i)]...)
			a.pageTo(t, false, of(i), base.parts[of(i)]...)
			a.pageTo(t, false, i, base.parts[i]...)
		}
		a.looks(t)
	}
}

// A leaf of which the hash is that of two kids: they are none that it may have.
func TestP162Leaf(t *testing.T) {
	for _, i := range []int{0, 3, 15} {
		left, right := hashOf("left"), hashOf("right")
		for _, base := range [][]api.Pair{nil, many(48)} {
			a := start(t, goalOf(base...).withLeaf(i, hashOf(nodeText(left, right))), base...)
			a.answers(t, way(i)[:4]...)
			a.nodeTo(t, false, 4, i, left, right)
			a.nodeTo(t, false, 3, i, left, right)
			a.nodeTo(t, false, 5, 2*i, left, right)
			a.pageTo(t, false, i, a.from.parts[i]...)
			a.looks(t)
			if l := a.w.Want(9); !slices.Equal(l, []walk.Ask{leaf(i)}) {
				t.Errorf("it asks for %v", l)
			}
		}
	}
}

// toLeaf is a walk from a base that asks for a bucket's pairs alone, of that hash.
func toLeaf(t *testing.T, i int, h api.Hash, base ...api.Pair) *asked {
	t.Helper()
	a := start(t, goalOf(base...).withLeaf(i, h), base...)
	a.answers(t, way(i)[:4]...)
	return a
}

// wrongPages are pairs of the bucket 3 that have no page.
func wrongPages() (l [][]api.Pair) {
	in := inOne(3, 50)
	for _, p := range noPaths() {
		l = append(l, []api.Pair{pair(p, "1")}, []api.Pair{in[0], pair(p, "1")}, []api.Pair{pair(p, ""), in[0]})
	}
	for _, n := range []int{33, 34, 64, huge} {
		l = append(l, []api.Pair{pair("app/a", valued(n))}, []api.Pair{in[0], pair(in[1].Path, valued(n))})
	}
	for i := range in[:9] {
		falls, twice, other := slices.Clone(in[:10]), slices.Clone(in[:10]), slices.Clone(in[:10])
		falls[i], falls[i+1] = falls[i+1], falls[i]
		twice[i+1] = twice[i]
		other[i+1] = pair(other[i].Path, "other")
		l = append(l, falls, twice, other)
	}
	for i, p := range oneEach() {
		if i != 3 {
			l = append(l, []api.Pair{pair(p, "1")}, rising([]api.Pair{pair("app/a", "1"), pair(p, "1")}))
		}
	}
	return append(l, in[:49], in, inOne(3, 200), make([]api.Pair, 1), make([]api.Pair, 49))
}

// Pairs that have no page don't fit, though the hash of what would be it is the one that is wanted; nor do they, where that of L alone is.
func TestP162NoPage(t *testing.T) {
	alone := toLeaf(t, 3, hashOf("L"), many(20)...)
	for _, l := range wrongPages() {
		alone.no(t, func() bool { return alone.page(t, 3, l...) })
		a := toLeaf(t, 3, hashOf(leafText(l)))
		if a.to.nodes[leaf(3)] != hashOf(leafText(l)) {
			t.Fatal("another leaf")
		}
		a.pageTo(t, false, 3, l...)
		for _, i := range []int{-1, 2, 4, 16, least, most} {
			a.no(t, func() bool { return a.page(t, i, l...) })
		}
		a.stands(t)
	}
	alone.no(t, func() bool { return alone.page(t, 3) })
	alone.looks(t)
}

// The same pairs as answers to a leaf that wants others, which then come.
func TestP162WrongPages(t *testing.T) {
	a := toLeaf(t, 3, hashOf(leafText(inOne(3, 5))), many(20)...)
	a.to.parts[3] = inOne(3, 5)
	for _, l := range wrongPages() {
		a.no(t, func() bool { return a.page(t, 3, l...) })
	}
	a.pageTo(t, false, 3, make([]api.Pair, huge)...)
	a.pageTo(t, false, 3, many(huge)...)
	a.pageTo(t, true, 3, inOne(3, 5)...)
	a.ends(t)
}

// Pairs near those that are wanted: other values, one more, one less, none, in other rows.
func TestP162NearPages(t *testing.T) {
	in := inOne(3, 48)
	for _, n := range []int{1, 2, 5, 48} {
		a := toLeaf(t, 3, hashOf(leafText(in[:n])))
		a.to.parts[3] = in[:n]
		a.pageTo(t, false, 3)
		for i, x := range in[:n] {
			for _, v := range []string{"", x.Value + "\x00", x.Value + "1", strings.Repeat("x", len(x.Value)), "other", valued(33)} {
				if v != x.Value {
					l := slices.Clone(in[:n])
					l[i].Value = v
					a.no(t, func() bool { return a.page(t, 3, l...) })
				}
			}
			less := slices.Delete(slices.Clone(in[:n]), i, i+1)
			a.no(t, func() bool { return a.page(t, 3, less...) })
			if n < 48 {
				a.no(t, func() bool { return a.page(t, 3, slices.Insert(slices.Clone(in[:n]), i+1, pair(x.Path+"\x01", ""))...) })
			}
		}
		a.pageTo(t, n == 1, 3, turned(in[:n])...)
		if n > 1 {
			a.pageTo(t, true, 3, in[:n]...)
		}
		a.ends(t)
		a.pageTo(t, false, 3, in[:n]...)
	}
}

// turned is a list from its end on.
func turned(l []api.Pair) []api.Pair {
	l = slices.Clone(l)
	slices.Reverse(l)
	return l
}

// Pages of none, of one pair, and of as many as there may be: they fit.
func TestP162Pages(t *testing.T) {
	for i := range buckets {
		for _, n := range []int{0, 1, 2, 47, 48} {
			base := []api.Pair{inOne(i, 49)[48]}
			a := start(t, goalOf(inOne(i, n)...), base...)
			a.leads(t, first)
			a.no(t, func() bool { return a.page(t, i, inOne(i, n)...) })
			a.no(t, func() bool { return a.page(t, i, base...) })
			a.stands(t)
		}
	}
}

// What was handed in may be written over behind Page: the list (in each page), and the texts' own bytes.
func TestP162Kept(t *testing.T) {
	for _, n := range []int{1, 2, 48} {
		a := toLeaf(t, 3, hashOf(leafText(inOne(3, n))))
		var l []api.Pair
		var all [][]byte
		for _, x := range inOne(3, n) {
			p, v := []byte(x.Path), []byte(x.Value)
			l = append(l, pair(textOn(p), textOn(v)))
			all = append(all, p, v)
		}
		if !a.w.Page(3, l) {
			t.Fatal("the page doesn't fit")
		}
		for k, x := range inOne(3, n) {
			if string(all[2*k]) != x.Path || string(all[2*k+1]) != x.Value {
				t.Fatalf("Page: %q, %q became %q, %q", x.Path, x.Value, all[2*k], all[2*k+1])
			}
		}
		for _, b := range all {
			clear(b)
		}
		a.fitted = append(a.fitted, answer{to: leaf(3), text: leafText(inOne(3, n)), l: inOne(3, n)})
		a.stands(t)
	}
}
