package walk_test

import (
	"math/rand"
	"slices"
	"testing"

	"twinlock/api"
	"twinlock/tree"
	"twinlock/walk"
)

func TestLimits(t *testing.T) {
	if api.Buckets != buckets || api.Depth != depth || api.MaxKeys != maxKeys || api.MaxValue != maxValue {
		t.Fatal("the limits")
	}
	if len(spots()) != count {
		t.Fatal("the nodes")
	}
}

// The chapter's examples, call by call; nodes and hashes are told by package tree.
func TestExamples(t *testing.T) {
	x := tree.New()
	x.Set("app/a", "1")
	// kids are a node's kids of the tree T.
	kids := func(level, i int) (left, right api.Hash) {
		left, _ = x.Node(level+1, 2*i)
		right, _ = x.Node(level+1, 2*i+1)
		return left, right
	}
	// toT is a walk from no pair to T.
	toT := func() *walk.Walk {
		w, e := walk.New(nil, x.Root())
		if e != api.OK {
			t.Fatalf("New(none, T's root): %d", e)
		}
		return w
	}
	const i = 3 // app/a's bucket
	one := []api.Pair{pair("app/a", "1")}

	w, e := walk.New(nil, tree.New().Root())
	if l := w.Want(9); e != api.OK || len(l) != 0 {
		t.Errorf("Want(9) of nothing: %v", l)
	}
	if l, ok := w.Done(); !ok || len(l) != 0 {
		t.Errorf("Done of nothing: %s, %v", show(l), ok)
	}

	w = toT()
	if l := w.Want(9); !slices.Equal(l, []walk.Ask{{Level: 0, I: 0}}) {
		t.Errorf("Want(9) at first: %v", l)
	}
	left, right := kids(0, 0)
	if !w.Node(0, 0, left, right) {
		t.Error("Node(0, 0, T's kids): false")
	}
	if l := w.Want(9); !slices.Equal(l, []walk.Ask{{Level: 1, I: 0}}) {
		t.Errorf("Want(9) then: %v", l)
	}

	for _, w := range []*walk.Walk{toT(), w} {
		if w.Node(0, 0, right, left) {
			t.Error("Node(0, 0, the kids turned about): true")
		}
		if w.Page(i, one) {
			t.Error("Page(i, app/a 1): true, ahead of what is above")
		}
	}

	for level := 1; level < 4; level++ {
		left, right := kids(level, i>>(4-level))
		if !w.Node(level, i>>(4-level), left, right) {
			t.Errorf("Node(%d): false", level)
		}
	}
	if w.Page(i, []api.Pair{pair("app/a", "2")}) {
		t.Error("Page(i, app/a 2): true")
	}
	if !w.Page(i, one) {
		t.Error("Page(i, app/a 1): false")
	}
	if l, ok := w.Done(); !ok || !slices.Equal(l, one) {
		t.Errorf("Done: %s, %v", show(l), ok)
	}
}

// From no pair, from one, from as many as there may be, one less and some between: to themselves, and to others.
func TestP161New(t *testing.T) {
	sizes := []int{0, 1, 2, 16, 30, 47, 48}
	for _, n := range sizes {
		start(t, goalOf(many(n)...), many(n)...).looks(t)
		for _, to := range sizes {
			a := start(t, goalOf(many(to)...), many(n)...)
			a.looks(t)
			if l := a.w.Want(most); (len(l) == 0) != (n == to) {
				t.Errorf("from %d to %d pairs: it asks for %v", n, to, l)
			}
		}
	}
	start(t, goalOf(), []api.Pair{}...).looks(t)
	for n := range maxKeys + 1 {
		start(t, goalOf(each("1")...), many(n)...)
	}
}

// Paths and values of all kinds.
func TestP161Kinds(t *testing.T) {
	var l []api.Pair
	for i, p := range goodPaths() {
		l = append(l, pair(p, valued(i)))
		start(t, goalOf(), pair(p, ""))
		start(t, goalOf(pair(p, "")), pair(p, valued(32)))
	}
	start(t, goalOf(), l...).looks(t)
	start(t, goalOf(l...), l...).ends(t)
	for n := range maxValue + 1 {
		start(t, goalOf(), pair("app/a", valued(n)), pair("app/b", letters(n)))
	}
}

// Too many pairs: one too many, and many more; whatever root is wanted.
func TestP161Full(t *testing.T) {
	for _, n := range []int{49, 50, 64, 96, 256, 1000, huge} {
		newTo(t, api.ErrFull, goalOf(), many(n)...)
		newTo(t, api.ErrFull, rooted(api.Hash{}), many(n)...)
	}
	newTo(t, api.ErrFull, goalOf(many(49)...), many(49)...)
	for i := range buckets {
		start(t, goalOf(), inOne(i, 48)...)
		newTo(t, api.ErrFull, goalOf(), inOne(i, 49)...)
	}
}

// Pairs that may not be: alone, and at each place among others that may; also among too many.
func TestP161Wrong(t *testing.T) {
	wrong := []api.Pair{pair("app/x", valued(33)), pair("app/x", letters(64)), pair("app/x", valued(huge)), pair("", valued(33)), {}}
	for _, p := range noPaths() {
		wrong = append(wrong, pair(p, ""), pair(p, "1"))
	}
	for _, x := range wrong {
		newTo(t, api.ErrArg, goalOf(), x)
		newTo(t, api.ErrArg, goalOf(), x, x)
		for _, n := range []int{2, 47, 48, 49, 100} {
			for _, i := range []int{0, 1, n / 2, n - 1} {
				l := many(n)
				l[i] = x
				newTo(t, api.ErrArg, goalOf(), l...)
			}
		}
	}
	newTo(t, api.ErrArg, goalOf(), make([]api.Pair, huge)...)
}

// Pairs that fall, or are the same: at each place; also among too many.
func TestP161Falls(t *testing.T) {
	for _, n := range []int{2, 3, 47, 48, 49, 60} {
		for i := 1; i < n; i++ {
			l := many(n)
			l[i-1], l[i] = l[i], l[i-1]
			newTo(t, api.ErrArg, goalOf(), l...)
			l = many(n)
			l[i] = l[i-1]
			newTo(t, api.ErrArg, goalOf(), l...)
			l[i].Value = "other"
			newTo(t, api.ErrArg, goalOf(), l...)
		}
	}
	newTo(t, api.ErrArg, goalOf(), pair("app/b", "1"), pair("app/a", "2"))
	// They rise, though their buckets fall.
	start(t, goalOf(), pair("app/5", "1"), pair("app/c", "2"))
	start(t, goalOf(), pair("app/a", "1"), pair("app/c", "2"))
	start(t, goalOf(), pair("app/B", "1"), pair("app/a", "2"))
}

// hashes are odd ones: of no tree, or of one part of one.
func hashes() []api.Hash {
	var ones, end, first api.Hash
	for i := range ones {
		ones[i] = 255
	}
	end[31], first[0] = 1, 1
	l := []api.Hash{{}, ones, end, first, hashOf(""), hashOf("L"), hashOf("N"), hashOf("L\x00"), hashOf(nodeText(api.Hash{}, api.Hash{}))}
	for i := range 32 {
		h := goalOf().root()
		h[i] ^= 1
		l = append(l, h)
	}
	return l
}

// The root that is wanted is told, whatever it is; unless it is the base's own, it is asked for.
func TestP161Root(t *testing.T) {
	for _, h := range hashes() {
		for _, n := range []int{0, 1, 48} {
			a := start(t, rooted(h), many(n)...)
			a.looks(t)
			if a.w.Root() != h || !slices.Equal(a.w.Want(9), []walk.Ask{top}) {
				t.Errorf("to %x: %x is wanted, %v asked for", h, a.w.Root(), a.w.Want(9))
			}
			if l, ok := a.w.Done(); ok || len(l) > 0 {
				t.Errorf("to %x: done with %s", h, show(l))
			}
		}
	}
	// A base's inner node or leaf as the root: it is not the base's own root.
	base := goalOf(many(30)...)
	for _, s := range spots() {
		a := start(t, rooted(base.nodes[s]), many(30)...)
		if is := len(a.w.Want(1)) == 0; is != (s == top) {
			t.Errorf("to the base's %v: asked for is %v", s, a.w.Want(1))
		}
	}
}

// To the base's own root the walk is done at once, and nothing fits any more.
func TestP161Own(t *testing.T) {
	for _, n := range []int{0, 1, 2, 16, 47, 48} {
		a := start(t, goalOf(many(n)...), many(n)...)
		a.ends(t)
		for _, s := range spots() {
			if a.gives(t, a.to, s, s) {
				t.Errorf("the answer to %v fits", s)
			}
		}
		a.looks(t)
		a.ends(t)
	}
}

// What was handed in may be written over behind New: the list (in each newTo), and the texts' own bytes.
func TestP161Kept(t *testing.T) {
	for _, n := range []int{1, 2, 47, 48} {
		var l []api.Pair
		var all [][]byte
		for _, x := range many(n) {
			p, v := []byte(x.Path), []byte(x.Value)
			l = append(l, pair(textOn(p), textOn(v)))
			all = append(all, p, v)
		}
		to := goalOf(each("1")...)
		w, e := walk.New(l, to.root())
		if e != api.OK {
			t.Fatal(e)
		}
		for k, x := range many(n) {
			if string(all[2*k]) != x.Path || string(all[2*k+1]) != x.Value {
				t.Fatalf("New: %q, %q became %q, %q", x.Path, x.Value, all[2*k], all[2*k+1])
			}
		}
		for _, b := range all {
			clear(b)
		}
		a := &asked{w: w, from: goalOf(many(n)...), to: to, ever: map[walk.Ask]bool{}}
		a.stands(t)
		a.leads(t, last)
	}
}

// Walks know nothing of one another: of one base, of one goal, of both.
func TestP161Apart(t *testing.T) {
	l, to := many(30), goalOf(each("1")...)
	all := []*asked{start(t, to, l...), start(t, to, l...), start(t, to), start(t, goalOf(many(20)...), l...), start(t, goalOf(l...), l...)}
	for i := range all {
		all[i].leads(t, first)
		for k, a := range all {
			a.stands(t)
			if _, ok := a.w.Done(); ok != (k <= i || k == 4) {
				t.Errorf("behind the walk %d the walk %d is done: %v", i, k, ok)
			}
		}
	}
}

// Bases drawn by chance, right ones and wrong ones.
func TestP161Chance(t *testing.T) {
	r := rand.New(rand.NewSource(161))
	told := map[api.Errno]int{}
	for range 1500 {
		l := many(r.Intn(64))
		if r.Intn(2) > 0 {
			l = slices.DeleteFunc(l, func(api.Pair) bool { return r.Intn(5) == 0 })
		}
		if len(l) > 0 && r.Intn(4) == 0 {
			i := r.Intn(len(l))
			l[i] = one(r, []api.Pair{pair(l[i].Path, valued(33)), pair(l[i].Path, valued(32)), pair(l[i].Path+"x", ""), pair("app", "1"), pair(one(r, l).Path, "1"), pair(one(r, goodPaths()), "1")})
		}
		e := faultOf(l)
		told[e]++
		newTo(t, e, goalOf(many(r.Intn(3)*16)...), l...)
	}
	for _, e := range []api.Errno{api.OK, api.ErrArg, api.ErrFull} {
		if told[e] < 100 {
			t.Errorf("%d came %d times", e, told[e])
		}
	}
}
