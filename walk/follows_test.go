package walk_test

import (
	"math/rand"
	"slices"
	"testing"

	"twinlock/api"
	"twinlock/tree"
	"twinlock/walk"
)

// treeOf is a tree of pairs, as package tree makes it.
func treeOf(t *testing.T, l ...api.Pair) *tree.Tree {
	t.Helper()
	x, e := tree.Of(l)
	if e != api.OK {
		t.Fatalf("a tree of %s: %d", show(l), e)
	}
	return x
}

// leadsBy leads a walk to a tree, all that it answers told by that tree itself; the tree's texts are among the walk's then.
func leadsBy(t *testing.T, x *tree.Tree, base ...api.Pair) {
	t.Helper()
	w, e := walk.New(base, x.Root())
	if e != api.OK {
		t.Fatal(e)
	}
	asks := 0
	for l := w.Want(8); len(l) > 0 && asks <= 31; l = w.Want(8) {
		for _, s := range l {
			asks++
			left, _ := x.Node(s.Level+1, 2*s.I)
			right, _ := x.Node(s.Level+1, 2*s.I+1)
			if s.Level == depth && !w.Page(s.I, x.Pairs(s.I)) || s.Level < depth && !w.Node(s.Level, s.I, left, right) {
				t.Fatalf("the tree's answer to %v does not fit", s)
			}
		}
	}
	l, ok := w.Done()
	if !ok || asks > 31 || !slices.Equal(l, x.All()) || treeOf(t, l...).Root() != w.Root() {
		t.Fatalf("behind %d answers: %v, %s, not %s", asks, ok, show(l), show(x.All()))
	}
	for _, s := range x.Texts() {
		if !slices.Contains(w.Texts(), s) {
			t.Fatalf("the walk has summed other texts than %q", s)
		}
	}
	if len(w.Texts()) != 31+asks {
		t.Fatalf("behind %d answers there are %d texts", asks, len(w.Texts()))
	}
}

// Between trees of all sizes, grown by Set and Drop, or told whole.
func TestP167Trees(t *testing.T) {
	grown := tree.New()
	for n, x := range many(maxKeys) {
		for _, base := range []int{0, 1, n, n + 1, min(n+2, maxKeys), maxKeys} {
			leadsBy(t, grown, many(base)...)
			leadsBy(t, treeOf(t, many(base)...), grown.All()...)
		}
		grown.Set(x.Path, x.Value)
	}
	for _, x := range many(maxKeys) {
		before := grown.All()
		grown.Drop(x.Path)
		leadsBy(t, grown, before...)
		leadsBy(t, treeOf(t, before...), grown.All()...)
		leadsBy(t, grown)
	}
}

// All trees of up to five paths, of two values each, from all others.
func TestP167All(t *testing.T) {
	paths := []string{"app/a", "app/ae", "app/b", "app/c", "ops/k"}
	var all [][]api.Pair
	for k := range 3 * 3 * 3 * 3 * 3 {
		var l []api.Pair
		for _, p := range paths {
			if k%3 > 0 {
				l = append(l, pair(p, []string{"", "", "1"}[k%3]))
			}
			k /= 3
		}
		all = append(all, l)
	}
	for i, base := range all {
		for k := i % 7; k < len(all); k += 7 {
			leadsBy(t, treeOf(t, all[k]...), base...)
		}
	}
}

// rows are all rows in which what is asked for may be answered.
func (a *asked) rows(tell func(row []walk.Ask)) {
	var grow func()
	grow = func() {
		l := a.wants()
		if len(l) == 0 {
			var row []walk.Ask
			for _, x := range a.fitted {
				row = append(row, x.to)
			}
			tell(row)
		}
		for _, s := range l {
			a.fitted = append(a.fitted, answer{to: s})
			grow()
			a.fitted = a.fitted[:len(a.fitted)-1]
		}
	}
	grow()
}

// Every row in which the answers may come, to trees that differ in two buckets, and in three.
func TestP167Rows(t *testing.T) {
	for _, x := range []struct {
		i []int
		n int
	}{
		{[]int{0, 15}, 70},
		{[]int{6, 7}, 2},
		{[]int{4, 7}, 6},
		{[]int{0, 1, 15}, 252},
		{[]int{2, 3, 1}, 20},
	} {
		to := goalOf(many(20)...)
		for _, i := range x.i {
			to = to.with(i, pair(oneEach()[i], "2"))
		}
		n := 0
		model := &asked{from: goalOf(many(20)...), to: to}
		model.rows(func(row []walk.Ask) {
			n++
			a := start(t, to, many(20)...)
			a.answers(t, row...)
			a.ends(t)
		})
		if n != x.n {
			t.Errorf("others at %v: %d rows, not %d", x.i, n, x.n)
		}
	}
}

// All 31 nodes are asked for, each once, if all differ; of two that differ in one bucket five; of the same none.
func TestP167Asks(t *testing.T) {
	for _, x := range []struct {
		from, to []api.Pair
		asks     int
	}{
		{each("1"), each("2"), 31},
		{nil, each("2"), 31},
		{each("1"), nil, 31},
		{many(48), each("2"), 31},
		{many(20), rising(append(many(20), pair("app/a", "1"))), 5},
		{many(20), many(20), 0},
		{nil, nil, 0},
	} {
		for _, pick := range []func(l []walk.Ask) walk.Ask{first, last} {
			a := start(t, goalOf(x.to...), x.from...)
			a.leads(t, pick)
			if len(a.ever) != x.asks || len(a.fitted) != x.asks {
				t.Errorf("%d nodes were asked for, %d answered, not %d", len(a.ever), len(a.fitted), x.asks)
			}
		}
	}
}

// changed is pairs of which some are others, by chance.
func changed(r *rand.Rand, l []api.Pair, most int) []api.Pair {
	for range most {
		l = slices.Clone(l)
		x := one(r, many(60))
		i := slices.IndexFunc(l, func(y api.Pair) bool { return y.Path == x.Path })
		switch {
		case i < 0 && len(l) < maxKeys:
			l = rising(append(l, x))
		case i >= 0 && r.Intn(2) == 0:
			l[i].Value = valued(r.Intn(33))
		case i >= 0:
			l = slices.Delete(l, i, i+1)
		}
	}
	return l
}

// odd gives an answer drawn by chance, which nearly never fits, and tells whether it did.
func (a *asked) odd(t *testing.T, r *rand.Rand) bool {
	t.Helper()
	asks := append(a.wants(), one(r, spots()))
	s, other := one(r, asks), one(r, spots())
	left, right := a.to.kids(s)
	part := slices.Clone(a.to.parts[s.I])
	switch r.Intn(10) {
	case 0:
		return a.node(t, s.Level, s.I, right, left)
	case 1:
		return a.gives(t, a.from, s, s)
	case 2:
		return a.gives(t, a.to, other, other)
	case 3:
		other.Level = s.Level
		other.I %= 1 << s.Level
		return a.gives(t, a.to, other, s)
	case 4:
		left[r.Intn(32)] ^= 1 << r.Intn(8)
		return a.node(t, s.Level, s.I, left, right)
	case 5:
		return a.node(t, one(r, numbers()), s.I, left, right)
	case 6:
		return a.node(t, s.Level, one(r, numbers()), left, right)
	case 7:
		return a.page(t, one(r, numbers()), part...)
	case 8:
		return a.page(t, s.I, one(r, [][]api.Pair{nil, append(part, part...), inOne(s.I, 49), {pair("app", "1")}, many(3), turned(part)})...)
	default:
		return a.page(t, s.I, changed(r, part, 1+r.Intn(2))...)
	}
}

// Walks between trees that differ in no pair, in one, in many, drawn by chance; answered in any row, with odd answers between.
func TestP167Chance(t *testing.T) {
	r := rand.New(rand.NewSource(167))
	odd, fitted, differs := 0, 0, map[int]int{}
	for range 400 {
		base := changed(r, many(one(r, []int{0, 3, 20, 44, 48})), r.Intn(20))
		n := one(r, []int{0, 1, 1, 2, 5, 30, 90})
		to := changed(r, base, n)
		if r.Intn(8) == 0 {
			to = changed(r, nil, n)
		}
		a := start(t, goalOf(to...), base...)
		for len(a.wants()) > 0 {
			for range r.Intn(6) {
				odd++
				if a.odd(t, r) {
					fitted++
				}
			}
			a.stands(t)
			if l := a.wants(); len(l) > 0 {
				s := one(r, l)
				a.answers(t, s)
			}
		}
		for range r.Intn(10) {
			a.odd(t, r)
		}
		a.looks(t)
		a.ends(t)
		differs[min(len(a.ever), 6)]++
		if len(a.ever) != len(a.fitted) {
			t.Fatalf("%d nodes were asked for, %d answered", len(a.ever), len(a.fitted))
		}
	}
	if odd < 5000 || fitted < 100 || odd < 4*fitted {
		t.Errorf("%d odd answers, %d of them fitted", odd, fitted)
	}
	for _, n := range []int{0, 5, 6} {
		if differs[n] < 40 {
			t.Errorf("%d walks asked for %d nodes", differs[n], n)
		}
	}
}

// Walks one behind the other: what one ends with is the base of the next one; and some are left where they are.
func TestP167Chain(t *testing.T) {
	r := rand.New(rand.NewSource(1670))
	var base []api.Pair
	for range 150 {
		to := goalOf(changed(r, base, r.Intn(40))...)
		a := start(t, to, base...)
		for range r.Intn(12) {
			if l := a.wants(); len(l) > 0 {
				a.answers(t, one(r, l))
			}
		}
		b := start(t, to, base...)
		b.leads(t, func(l []walk.Ask) walk.Ask { return one(r, l) })
		a.stands(t)
		base, _ = b.w.Done()
	}
}
