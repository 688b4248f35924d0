package tree_test

import (
	"maps"
	"math/rand"
	"slices"
	"strconv"
	"testing"

	"twinlock/api"
	"twinlock/tree"
)

// same asks whether trees have the same nodes, node by node, and all else the same.
func same(t *testing.T, l ...*asked) {
	t.Helper()
	first := tell(l[0].x)
	for _, a := range l {
		if !maps.Equal(a.has, l[0].has) {
			t.Fatal("trees of unlike pairs")
		}
		a.stands(t)
		if s := tell(a.x).differs(first); s != "" {
			t.Fatalf("trees of the same %d pairs: %s", len(a.has), s)
		}
	}
}

// Five pairs, two of them of one bucket, in all rows that they may come in.
func TestP156Rows(t *testing.T) {
	l := []api.Pair{pair("app/a", "1"), pair("app/ae", "2"), pair("app/b", ""), pair("app/c", "4"), pair("ops/k", valued(32))}
	whole := with(t, l...)
	rows := 0
	var grow func(row []int)
	grow = func(row []int) {
		if len(row) == len(l) {
			rows++
			a := start(t)
			for _, i := range row {
				a.set(t, l[i].Path, l[i].Value)
			}
			same(t, whole, a)
			return
		}
		for i := range l {
			if !slices.Contains(row, i) {
				grow(append(slices.Clone(row), i))
			}
		}
	}
	grow(nil)
	if rows != 120 {
		t.Errorf("%d rows", rows)
	}
}

// The same pairs by other ways: with other values first, with drops between, out of trees of more, of twins, behind what was refused.
func TestP156Ways(t *testing.T) {
	l := []api.Pair{pair("app/a", "1"), pair("app/ae", ""), pair("ops/k", "2")}
	ways := []*asked{with(t, l...), start(t), start(t), start(t), start(t), with(t, many(48)...), with(t, l[1]).twin(t)}
	ways[1].sets(t, l...)
	ways[2].sets(t, l[2], l[1], l[0])
	ways[3].sets(t, pair("app/a", "other"), pair("ops/k", ""), pair("app/b", "1"), pair("app/ao", "1"), l[2], l[1], l[1], l[0])
	ways[3].dropTo(t, true, "app/b", "app/ao")
	for range 3 {
		ways[4].sets(t, l[1], l[0], l[2])
		ways[4].dropTo(t, true, "ops/k", "app/a", "app/ae")
	}
	ways[4].sets(t, l[0], l[1], l[2])
	for _, x := range l {
		ways[5].setTo(t, api.ErrFull, x.Path, x.Value)
	}
	for _, x := range many(48) {
		ways[5].dropTo(t, true, x.Path)
	}
	ways[5].sets(t, l...)
	ways[6].setTo(t, api.ErrKey, "app", "1")
	ways[6].setTo(t, api.ErrLong, "app/b", valued(33))
	ways[6].sets(t, l[0], l[2])
	ways = append(ways, ways[3].twin(t))
	same(t, ways...)
	for _, a := range ways {
		a.sets(t, pair("app/d", "5"))
		same(t, a, with(t, l[0], l[1], pair("app/d", "5"), l[2]))
		a.dropTo(t, true, "app/d")
	}
	same(t, ways...)
}

// Each tree emptied is a new one.
func TestP156Emptied(t *testing.T) {
	for _, n := range []int{1, 2, 16, 48} {
		a, b := with(t, many(n)...), start(t)
		b.sets(t, many(n)...)
		same(t, a, b)
		for i, x := range many(n) {
			a.dropTo(t, true, x.Path)
			b.dropTo(t, true, many(n)[n-1-i].Path)
		}
		same(t, a, b, start(t), with(t))
	}
}

// Trees that come to pairs drawn by chance, each by a row of its own, with drops and other pairs between.
func TestP156Chance(t *testing.T) {
	r := rand.New(rand.NewSource(156))
	for range 150 {
		want := plain{}
		for _, x := range many(60) {
			if r.Intn(60) < 30 && len(want) < maxKeys {
				want[x.Path] = valued(r.Intn(33))
			}
		}
		ways := []*asked{with(t, want.rising()...)}
		for range 3 {
			a := start(t)
			for range r.Intn(80) {
				a.set(t, one(r, many(60)).Path, valued(r.Intn(40)))
				a.drop(t, one(r, many(60)).Path)
			}
			for _, i := range r.Perm(60) {
				p := many(60)[i].Path
				if _, there := want[p]; !there {
					a.drop(t, p)
				}
			}
			l := want.rising()
			for _, i := range r.Perm(len(l)) {
				a.set(t, l[i].Path, l[i].Value)
			}
			ways = append(ways, a)
		}
		same(t, ways...)
	}
}

// roots keeps trees' roots, and asks that each tree of other pairs has another one.
type roots map[api.Hash]string

// adds asks a tree of pairs.
func (seen roots) adds(t *testing.T, l ...api.Pair) {
	t.Helper()
	x, e := tree.Of(l)
	if e != api.OK {
		t.Fatalf("Of(%s): %d", show(l), e)
	}
	pairs := ""
	for _, x := range l {
		pairs += text(x.Path) + text(x.Value)
	}
	if s, is := seen[x.Root()]; is && s != pairs {
		t.Fatalf("%q and %q have the root %x", s, pairs, x.Root())
	}
	seen[x.Root()] = pairs
}

// All trees of up to seven paths, each of them with one of two values.
func TestP157All(t *testing.T) {
	seen := roots{}
	paths := []string{"app/a", "app/ae", "app/ao", "app/b", "app/c", "app/d", "ops/k"}
	n := 1
	for range paths {
		n *= 3
	}
	for k := range n {
		var l []api.Pair
		for _, p := range paths {
			if k%3 > 0 {
				l = append(l, pair(p, []string{"", "", "1"}[k%3]))
			}
			k /= 3
		}
		seen.adds(t, l...)
	}
	if len(seen) != n {
		t.Errorf("%d roots of %d trees", len(seen), n)
	}
}

// Trees that differ in one path, in one value, in one byte.
func TestP157One(t *testing.T) {
	for _, n := range []int{1, 2, 17, 48} {
		seen := roots{}
		seen.adds(t)
		seen.adds(t, many(n)...)
		for _, x := range many(n) {
			others := plainOf(many(n))
			delete(others, x.Path)
			seen.adds(t, others.rising()...)
			// with asks a tree of the others and another pair.
			with := func(p, v string) {
				has := maps.Clone(others)
				has[p] = v
				seen.adds(t, has.rising()...)
			}
			for k := len("app/"); k < len(x.Path); k++ {
				with(x.Path[:k]+"x"+x.Path[k+1:], x.Value)
			}
			for k := range len(x.Value) {
				b := []byte(x.Value)
				b[k] ^= 1
				with(x.Path, string(b))
				with(x.Path, x.Value[:k])
			}
		}
		if len(seen) < 9*n {
			t.Errorf("%d roots", len(seen))
		}
	}
}

// The same bytes cut in other places, the same values at one another's paths, one value in place of another one.
func TestP157Near(t *testing.T) {
	seen := roots{}
	lists := [][]api.Pair{
		{pair("app/a", "")}, {pair("app/a", "\x00")}, {pair("app/a", "\x00\x00")}, {pair("app/a", "b1")}, {pair("app/ab", "1")}, {pair("app/ab1", "")},
		{pair("app/a", "1"), pair("app/b", "2")}, {pair("app/a", "2"), pair("app/b", "1")}, {pair("app/a", "1"), pair("app/b", "1")}, {pair("app/a", "2"), pair("app/b", "2")},
		{pair("app/a", "1"), pair("app/ae", "2")}, {pair("app/a", "2"), pair("app/ae", "1")}, {pair("app/a", "1\x06app/ae\x012")}, {pair("app/a", ""), pair("app/ae", "")},
		{pair("app/a", "1")}, {pair("app/ae", "1")}, {pair("app/ao", "1")}, {pair("apps/a", "1")}, {pair("ap/pa", "1")}, {pair("app/A", "1")},
	}
	for _, l := range lists {
		seen.adds(t, l...)
	}
	if len(seen) != len(lists) {
		t.Errorf("%d roots of %d trees", len(seen), len(lists))
	}
}

// If one pair of a tree becomes another one, just the nodes above its bucket do: those that differ lead down to it.
func TestP157Down(t *testing.T) {
	for i := range buckets {
		for _, n := range []int{0, 1, 5, 47} {
			l := many(n)
			a := with(t, l...)
			b := a.twin(t)
			p := oneEach()[i]
			b.sets(t, pair(p, strconv.Itoa(n)))
			w, v := tell(a.x), tell(b.x)
			for k, s := range spots() {
				above := []int{0, i / 8, i / 4, i / 2, i}[s.level] == s.i
				if (w.nodes[k] != v.nodes[k]) != above || (w.texts[k] != v.texts[k]) != above {
					t.Errorf("%s beside %d pairs: Node(%d, %d) is %x, was %x", p, n, s.level, s.i, v.nodes[k], w.nodes[k])
				}
			}
		}
	}
}

// Of two trees, drawn by chance, either the roots differ, or no pair does; and texts that differ lead to it.
func TestP157Chance(t *testing.T) {
	r := rand.New(rand.NewSource(157))
	told := map[bool]int{}
	for range 4000 {
		a, b := plain{}, plain{}
		for _, x := range many(4 + r.Intn(10)) {
			for _, has := range []plain{a, b} {
				if r.Intn(10) > 0 {
					has[x.Path] = valued(r.Intn(2) * r.Intn(2))
				}
			}
		}
		if r.Intn(3) == 0 {
			b = maps.Clone(a)
		}
		x, _ := tree.Of(a.rising())
		y, _ := tree.Of(b.rising())
		alike := maps.Equal(a, b)
		told[alike]++
		if (x.Root() == y.Root()) != alike || slices.Equal(x.Texts(), y.Texts()) != alike || slices.Equal(x.All(), y.All()) != alike {
			t.Fatalf("%s and %s: %x, %x", show(a.rising()), show(b.rising()), x.Root(), y.Root())
		}
	}
	if told[true] < 500 || told[false] < 500 {
		t.Errorf("alike %d times, unlike %d times", told[true], told[false])
	}
}
