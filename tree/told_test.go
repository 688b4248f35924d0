package tree_test

import (
	"math/rand"
	"slices"
	"strings"
	"testing"

	"twinlock/api"
	"twinlock/tree"
)

// Node of every level and every number, about the edges of each level: of trees of no pair, of some, of as many as there may be.
func TestP153Node(t *testing.T) {
	for _, n := range []int{0, 1, 16, 48} {
		a := with(t, many(n)...)
		w := reckoned(many(n))
		nodes := map[spot]api.Hash{}
		for k, s := range spots() {
			nodes[s] = w.nodes[k]
		}
		for _, level := range numbers() {
			for _, i := range numbers() {
				want, is := nodes[spot{level, i}]
				if h, ok := a.x.Node(level, i); h != want || ok != is {
					t.Errorf("Node(%d, %d): %x, %v, not %x, %v", level, i, h, ok, want, is)
				}
			}
		}
		if h, ok := a.x.Node(0, 0); h != a.x.Root() || !ok {
			t.Errorf("the root %x, the node 0 of the level 0 %x", a.x.Root(), h)
		}
	}
}

// Each node is Inner of its kids, or Leaf of its bucket's page.
func TestP153Kids(t *testing.T) {
	for n := range maxKeys + 1 {
		a := with(t, many(n)...)
		for _, s := range spots() {
			h, _ := a.x.Node(s.level, s.i)
			want := tree.Leaf(pageOf(a.x.Pairs(s.i)...))
			if s.level < depth {
				left, _ := a.x.Node(s.level+1, 2*s.i)
				right, _ := a.x.Node(s.level+1, 2*s.i+1)
				want = tree.Inner(left, right)
			}
			if h != want {
				t.Fatalf("of %d pairs: Node(%d, %d): %x, not %x", n, s.level, s.i, h, want)
			}
		}
	}
}

// Pairs of each bucket, and of numbers that are none.
func TestP153Pairs(t *testing.T) {
	a := start(t)
	for _, p := range oneEach() {
		a.setTo(t, api.OK, p, p)
	}
	for i, p := range oneEach() {
		if l := a.x.Pairs(i); !slices.Equal(l, []api.Pair{pair(p, p)}) {
			t.Errorf("Pairs(%d): %s", i, show(l))
		}
	}
	for _, i := range numbers() {
		if l := a.x.Pairs(i); len(l) != 0 && (i < 0 || i > 15) {
			t.Errorf("Pairs(%d): %s", i, show(l))
		}
	}
	// In whichever row they come, a bucket's pairs rise.
	for i := range buckets {
		want := inOne(i, 6)
		for _, row := range [][]int{{0, 1, 2, 3, 4, 5}, {5, 4, 3, 2, 1, 0}, {3, 0, 5, 1, 4, 2}, {2, 5, 3, 1, 0, 4}} {
			b := start(t)
			for _, k := range row {
				b.setTo(t, api.OK, want[k].Path, want[k].Value)
			}
			if l := b.x.Pairs(i); !slices.Equal(l, want) {
				t.Errorf("Pairs(%d): %s, not %s", i, show(l), show(want))
			}
			b.looks(t)
		}
	}
}

// All pairs rise byte by byte, whatever buckets they are of: each byte that a key may have, as the first and as the last one.
func TestP153All(t *testing.T) {
	var keys []string
	for c := range 256 {
		if c != 0 && c != '/' {
			keys = append(keys, string([]byte{byte(c)}))
		}
	}
	r := rand.New(rand.NewSource(1533))
	for range 60 {
		r.Shuffle(len(keys), func(i, j int) { keys[i], keys[j] = keys[j], keys[i] })
		a, b := start(t), start(t)
		for _, k := range keys[:maxKeys] {
			a.set(t, "app/"+k, k)
			b.set(t, "app/key"+k, k)
		}
		a.stands(t)
		b.stands(t)
	}
	a := start(t)
	for _, p := range slices.Backward(goodPaths()) {
		a.setTo(t, api.OK, p, "1")
	}
	var told []string
	for _, x := range a.x.All() {
		told = append(told, x.Path)
	}
	if !slices.Equal(told, goodPaths()) {
		t.Errorf("All: %q", told)
	}
}

// The texts: in the row of P15.4, each node the hash of its text; an inner one's has its two kids.
func TestP154Texts(t *testing.T) {
	for _, n := range []int{0, 1, 2, 16, 47, 48} {
		a := with(t, many(n)...)
		l := a.x.Texts()
		if len(l) != 31 {
			t.Fatalf("%d texts", len(l))
		}
		k := 0
		for _, level := range []struct{ level, nodes int }{{4, 16}, {3, 8}, {2, 4}, {1, 2}, {0, 1}} {
			for i := range level.nodes {
				h, _ := a.x.Node(level.level, i)
				if h != hashOf(l[k]) {
					t.Errorf("the text %d is %q, Node(%d, %d) is %x", k, l[k], level.level, i, h)
				}
				if level.level == 4 {
					if l[k] != "L"+pageOf(a.x.Pairs(i)...) {
						t.Errorf("the leaf %d's text is %q", i, l[k])
					}
				} else {
					left, _ := a.x.Node(level.level+1, 2*i)
					right, _ := a.x.Node(level.level+1, 2*i+1)
					if len(l[k]) != 65 || l[k] != "N"+string(left[:])+string(right[:]) {
						t.Errorf("the text %d has %d bytes: %x", k, len(l[k]), l[k])
					}
				}
				k++
			}
		}
	}
	// Of a tree without pairs, to the byte.
	for k, s := range tree.New().Texts() {
		if k < 16 && s != "L\x00" {
			t.Errorf("the text %d is %q", k, s)
		}
		if k >= 16 && (len(s) != 65 || s[0] != 'N' || s[1:33] != s[33:]) {
			t.Errorf("the text %d is %x", k, s)
		}
	}
	if l := tree.New().Texts(); !strings.HasPrefix(l[16], "N\x1f\x6f\x52\x79") || !strings.HasPrefix(l[30], "N\x47\x83\x38\x1d") {
		t.Errorf("the texts 16 and 30 are %x, %x", l[16], l[30])
	}
}

// A twin has the same, and either goes its own way, whatever is done to the other.
func TestP154Twin(t *testing.T) {
	for _, n := range []int{0, 1, 2, 20, 47, 48} {
		a := with(t, many(n)...)
		b := a.twin(t)
		c := b.twin(t)
		for _, x := range many(n) {
			a.setTo(t, api.OK, x.Path, "a")
			b.stands(t)
			b.setTo(t, api.OK, x.Path, "b")
			a.stands(t)
			c.stands(t)
		}
		for i, x := range many(n) {
			switch i % 3 {
			case 0:
				a.dropTo(t, true, x.Path)
			case 1:
				b.dropTo(t, true, x.Path)
			default:
				a.dropTo(t, true, x.Path)
				b.dropTo(t, true, x.Path)
			}
			a.stands(t)
			b.stands(t)
			c.stands(t)
		}
		for _, p := range oneEach()[:8] {
			a.set(t, p, "a")
			b.set(t, p, "b")
			c.set(t, p, "c")
		}
		a.looks(t)
		b.looks(t)
		c.looks(t)
	}
}

// Twins that have the same pairs side by side in one bucket: one puts a pair there, the other another one.
func TestP154TwinBucket(t *testing.T) {
	for i := range buckets {
		l := inOne(i, 8)
		for n := range 5 {
			// Grown one by one, so that its lists may have room left; and whole.
			grown := start(t)
			grown.sets(t, l[:n]...)
			for _, a := range []*asked{grown, with(t, l[:n]...)} {
				b := a.twin(t)
				a.sets(t, l[5])
				b.sets(t, l[6])
				a.stands(t)
				a.sets(t, l[7])
				b.stands(t)
				if n > 0 {
					a.dropTo(t, true, l[0].Path)
					b.stands(t)
					b.sets(t, pair(l[0].Path, "other"))
					a.stands(t)
				}
			}
		}
	}
}

// Many trees and twins of twins, drawn by chance: behind each step all of them stand as they must.
func TestP154Chance(t *testing.T) {
	r := rand.New(rand.NewSource(154))
	var paths []string
	for _, x := range many(60) {
		paths = append(paths, x.Path)
	}
	for range 12 {
		all := []*asked{start(t)}
		for range 60 {
			a := one(r, all)
			switch r.Intn(8) {
			case 0:
				if len(all) < 6 {
					all = append(all, a.twin(t))
				}
			case 1, 2:
				a.drop(t, one(r, paths))
			default:
				for range 1 + r.Intn(6) {
					a.set(t, one(r, paths), valued(r.Intn(34)))
				}
			}
			for _, a := range all {
				a.stands(t)
			}
		}
	}
}

// A nil tree in every call.
func TestP155(t *testing.T) {
	var x *tree.Tree
	a := &asked{x: x}
	a.looks(t)
	if a.x.Root() != (api.Hash{}) || len(a.x.All()) != 0 || len(a.x.Texts()) != 0 || a.x.Twin() != nil {
		t.Error("a nil tree has something")
	}
	for _, l := range [][]string{goodPaths(), noPaths(), oneEach()} {
		for _, p := range l {
			for _, v := range []string{"", "1", valued(32), valued(33), valued(huge)} {
				a.setTo(t, api.ErrNil, p, v)
			}
			a.dropTo(t, false, p)
		}
	}
	a.looks(t)
	if tree.New().Root() == x.Root() {
		t.Error("a nil tree's root is that of none")
	}
}

// A Tree that neither New nor Of made is not nil: no call of it panics.
func TestZero(t *testing.T) {
	for _, x := range []*tree.Tree{{}, new(tree.Tree)} {
		for range 2 {
			x.Root()
			x.Node(4, 15)
			x.Pairs(15)
			x.All()
			x.Texts()
			if x.Twin() == nil {
				t.Error("Twin is nil")
			}
			x.Set("app", "1")
			x.Drop("app/a")
			x.Set("app/a", "1")
		}
		if l := x.All(); !slices.Equal(l, []api.Pair{pair("app/a", "1")}) {
			t.Errorf("All: %s", show(l))
		}
	}
}
