package walk_test

import (
	"math/rand"
	"slices"
	"strconv"
	"testing"

	"twinlock/api"
	"twinlock/tree"
	"twinlock/walk"
)

// open asks whether the walk is not done.
func (a *asked) open(t *testing.T) {
	t.Helper()
	if l, ok := a.w.Done(); ok || len(l) > 0 {
		t.Fatalf("behind %d answers the walk is done with %s", len(a.fitted), show(l))
	}
}

// Not done ahead of the answers and between them, done behind them; and what comes then changes nothing.
func TestP163Done(t *testing.T) {
	frontiers(t, func(a *asked) {
		if len(a.wants()) > 0 {
			a.open(t)
			return
		}
		a.ends(t)
		for _, s := range spots() {
			a.no(t, func() bool { return a.gives(t, a.to, s, s) })
			a.no(t, func() bool { return a.gives(t, a.from, s, s) })
		}
		a.looks(t)
		a.ends(t)
	})
}

// changes are what may become of a bucket's pairs.
func changes(i int, part []api.Pair) (l [][]api.Pair) {
	l = append(l, nil, []api.Pair{pair(oneEach()[i], "new")}, rising(append([]api.Pair{pair(oneEach()[i], "new")}, part...)))
	if len(part) > 0 {
		values := slices.Clone(part)
		for k := range values {
			values[k].Value += "+"
			values[k].Value = values[k].Value[:min(len(values[k].Value), maxValue)]
		}
		l = append(l, values, part[1:], part[:len(part)-1])
	}
	return l
}

// In one bucket there are other pairs, or none any more: these take the place of the base's.
func TestP163One(t *testing.T) {
	for _, n := range []int{0, 1, 16, 40, 47} {
		base := goalOf(many(n)...)
		for i := range buckets {
			for _, part := range changes(i, base.parts[i]) {
				a := start(t, base.with(i, part...), many(n)...)
				a.leads(t, first)
				if len(a.fitted) != 0 && len(a.fitted) != 5 {
					t.Errorf("another bucket %d: %d answers", i, len(a.fitted))
				}
			}
		}
	}
}

// In several buckets, and in all sixteen.
func TestP163Several(t *testing.T) {
	base := goalOf(many(32)...)
	for _, l := range [][]int{{0, 1}, {0, 15}, {7, 8}, {3, 4, 5, 6}, {1, 3, 5, 7, 9, 11, 13, 15}, {0, 1, 2, 3, 4, 5, 6, 7}, {15, 2, 9}, {0, 1, 2, 3, 4, 5, 6, 7, 8, 9, 10, 11, 12, 13, 14, 15}} {
		for k := range 6 {
			to := base
			for _, i := range l {
				if other := changes(i, base.parts[i]); k < len(other) {
					to = to.with(i, other[k]...)
				}
			}
			start(t, to, many(32)...).leads(t, first)
			start(t, to, many(32)...).leads(t, last)
			start(t, base, to.pairs()...).leads(t, last)
		}
	}
}

// Buckets that become empty, one behind the other, and those that were empty.
func TestP163Empty(t *testing.T) {
	for i := range buckets {
		start(t, goalOf(), inOne(i, 48)...).leads(t, first)
		start(t, goalOf(inOne(i, 48)...)).leads(t, first)
		start(t, goalOf(each("1")...).with(i), each("1")...).leads(t, first)
	}
	to := goalOf(each("1")...)
	for i := range buckets {
		to = to.with(i)
		a := start(t, to, each("1")...)
		a.leads(t, last)
		if l, _ := a.w.Done(); len(l) != 15-i {
			t.Errorf("%d pairs are left", len(l))
		}
	}
}

// From as many pairs as there may be to as many others, of which none or some are the same.
func TestP163Full(t *testing.T) {
	l := many(96)
	for _, k := range []int{0, 1, 24, 47, 48} {
		for _, pick := range []func(l []walk.Ask) walk.Ask{first, last} {
			start(t, goalOf(l[k:k+48]...), l[:48]...).leads(t, pick)
			start(t, goalOf(l[:48]...), l[k:k+48]...).leads(t, pick)
		}
	}
	for i := range buckets {
		start(t, goalOf(inOne(15-i, 48)...), inOne(i, 48)...).leads(t, first)
	}
}

// Pages that come to more pairs than there may be: nothing is asked for any more, and yet the walk is not done.
func TestP163Over(t *testing.T) {
	var all []api.Pair
	for i := range buckets {
		all = append(all, inOne(i, 48)...)
	}
	half := append(inOne(2, 24), inOne(9, 24)...)
	for _, x := range []struct {
		base, to []api.Pair
		done     bool
	}{
		{nil, many(48), true},
		{nil, many(49), false},
		{nil, many(50), false},
		{nil, many(400), false},
		{nil, all, false},
		{nil, append(inOne(0, 48), inOne(1, 48)...), false},
		{nil, half, true},
		{nil, append(half, pair("app/a", "1")), false},
		{inOne(0, 48), append(inOne(0, 48), pair("app/a", "1")), false},
		{inOne(0, 47), append(inOne(0, 47), pair("app/a", "1")), true},
		{many(48), many(49), false},
		{many(48), append(many(49)[1:], pair("app/a", "1")), false},
		{many(48), append(many(47), pair("app/a", "1")), true},
		{many(1), many(49), false},
	} {
		a := start(t, goalOf(rising(x.to)...), x.base...)
		for l := a.wants(); len(l) > 0; l = a.wants() {
			a.open(t)
			a.answers(t, l[0])
		}
		a.looks(t)
		if len(a.w.Want(most)) > 0 {
			t.Errorf("it asks for %v", a.w.Want(most))
		}
		if x.done {
			a.ends(t)
		} else {
			a.open(t)
		}
	}
}

// The base's and the staged pairs rise together byte by byte, whatever buckets they are of.
func TestP163Row(t *testing.T) {
	var keys []string
	for c := range 256 {
		if c != 0 && c != '/' {
			keys = append(keys, string([]byte{byte(c)}))
		}
	}
	r := rand.New(rand.NewSource(1633))
	for range 30 {
		r.Shuffle(len(keys), func(i, j int) { keys[i], keys[j] = keys[j], keys[i] })
		var base, to []api.Pair
		for k, key := range keys[:maxKeys] {
			base = append(base, pair("app/"+key, "1"))
			to = append(to, pair("app/"+key, strconv.Itoa(k%2+1)))
		}
		start(t, goalOf(rising(to)...), rising(base)...).leads(t, first)
		start(t, goalOf(rising(to)...), rising(base[:20])...).leads(t, last)
	}
	var l []api.Pair
	for _, p := range goodPaths() {
		l = append(l, pair(p, "1"))
	}
	for k := range l {
		a := start(t, goalOf(l...), slices.Delete(slices.Clone(l), k, k+1)...)
		a.leads(t, first)
		start(t, goalOf(l[k:]...), l[:k]...).leads(t, first)
	}
}

// The base's texts, as its tree tells them, and behind them those of the answers, in the row in which they came.
func TestP164Texts(t *testing.T) {
	for _, pick := range []func(l []walk.Ask) walk.Ask{first, last, func(l []walk.Ask) walk.Ask { return l[len(l)/2] }} {
		for _, n := range []int{0, 1, 30, 48} {
			base, e := tree.Of(many(n))
			if e != api.OK {
				t.Fatal(e)
			}
			a := start(t, goalOf(each("2")...), many(n)...)
			want := base.Texts()
			if len(want) != 31 || !slices.Equal(a.w.Texts(), want) {
				t.Fatalf("of %d pairs the texts at first are %.300q", n, a.w.Texts())
			}
			for l := a.wants(); len(l) > 0; l = a.wants() {
				s := pick(l)
				a.gives(t, a.to, s, s)
				left, right := a.to.kids(s)
				text := "N" + string(left[:]) + string(right[:])
				if s.Level == depth {
					p := oneEach()[s.I]
					text = "L\x01" + string([]byte{byte(len(p))}) + p + "\x012"
				}
				want = append(want, text)
				if got := a.w.Texts(); !slices.Equal(got, want) {
					t.Fatalf("behind the answer to %v the texts are %d, the last one %q, not %q", s, len(got), got[len(got)-1], text)
				}
				if hashOf(text) != a.to.nodes[s] {
					t.Fatalf("the text of %v has another hash", s)
				}
			}
			if len(want) != 62 {
				t.Errorf("%d texts", len(want))
			}
		}
	}
}

// What does not fit, or comes once more, leaves no text; a page of none leaves one.
func TestP164None(t *testing.T) {
	a := start(t, goalOf(), pair("app/a", "1"))
	for k, s := range way(3) {
		for _, s := range spots() {
			if k < 4 && s.Level == depth {
				a.gives(t, a.to, s, s)
			}
			a.gives(t, a.from, s, s)
		}
		if n := len(a.w.Texts()); n != 31+k {
			t.Errorf("ahead of the answer to %v there are %d texts", s, n)
		}
		a.answers(t, s)
		a.gives(t, a.to, s, s)
		if n := len(a.w.Texts()); n != 32+k {
			t.Errorf("behind the answer to %v there are %d texts", s, n)
		}
	}
	if l := a.w.Texts(); l[35] != "L\x00" {
		t.Errorf("the last text is %q", l[35])
	}
	a.ends(t)
}

// A nil walk in every call, whatever it is asked.
func TestP165(t *testing.T) {
	a := &asked{ever: map[walk.Ask]bool{}}
	a.looks(t)
	if l, ok := a.w.Done(); ok || len(l) > 0 || a.w.Root() != (api.Hash{}) || len(a.w.Texts()) > 0 || len(a.w.Want(most)) > 0 {
		t.Error("a nil walk has something")
	}
	to := goalOf(many(20)...)
	for _, level := range numbers() {
		for _, i := range numbers() {
			if a.w.Node(level, i, api.Hash{}, api.Hash{}) {
				t.Errorf("Node(%d, %d): true", level, i)
			}
		}
		for _, l := range [][]api.Pair{nil, {}, many(1), many(49), inOne(3, 2), {{}}, {pair("app", valued(33))}} {
			if a.w.Page(level, l) {
				t.Errorf("Page(%d, %s): true", level, show(l))
			}
		}
	}
	for _, s := range spots() {
		left, right := to.kids(s)
		if a.w.Node(s.Level, s.I, left, right) || s.Level == depth && a.w.Page(s.I, to.parts[s.I]) {
			t.Errorf("the answer to %v fits", s)
		}
	}
	a.looks(t)
}

// A Walk that New did not make is not nil: no call of it panics, nothing fits, and it is not done.
func TestZero(t *testing.T) {
	for _, w := range []*walk.Walk{{}, new(walk.Walk)} {
		for range 2 {
			for _, s := range spots() {
				left, right := goalOf().kids(s)
				if w.Node(s.Level, s.I, left, right) || w.Node(s.Level, s.I, api.Hash{}, api.Hash{}) || w.Page(s.I, nil) {
					t.Errorf("an answer to %v fits", s)
				}
			}
			if l, ok := w.Done(); ok || len(l) > 0 || len(w.Want(9)) > 0 || len(w.Texts()) > 0 || w.Root() != (api.Hash{}) {
				t.Error("it leads somewhere")
			}
		}
	}
}
