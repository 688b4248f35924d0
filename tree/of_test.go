package tree_test

import (
	"encoding/hex"
	"math/rand"
	"slices"
	"strconv"
	"strings"
	"testing"

	"twinlock/api"
	"twinlock/tree"
)

func TestLimits(t *testing.T) {
	if api.Buckets != buckets || api.Depth != depth || api.MaxKeys != maxKeys || api.MaxValue != maxValue {
		t.Fatal("the limits")
	}
	if len(spots()) != count {
		t.Fatal("the nodes")
	}
}

// The chapter's examples, call by call.
func TestExamples(t *testing.T) {
	if h, ok := tree.New().Node(4, 0); h != tree.Leaf("\x00") || !ok {
		t.Errorf("Node(4, 0): %x, %v", h, ok)
	}
	if l := tree.New().Pairs(0); len(l) != 0 {
		t.Errorf("Pairs(0): %q", l)
	}
	if l := tree.New().Texts(); len(l) != 31 {
		t.Errorf("Texts: %d of them", len(l))
	}
	for _, s := range []spot{{5, 0}, {4, 16}, {0, 1}} {
		if h, ok := tree.New().Node(s.level, s.i); h != (api.Hash{}) || ok {
			t.Errorf("Node(%d, %d): %x, %v", s.level, s.i, h, ok)
		}
	}
	x := tree.New()
	if e := x.Set("app/a", "1"); e != api.OK {
		t.Errorf("Set(app/a, 1): %d", e)
	}
	if e := x.Set("app", "1"); e != api.ErrKey {
		t.Errorf("Set(app, 1): %d", e)
	}
	if !x.Drop("app/a") {
		t.Error("Drop(app/a): false")
	}
	if x.Drop("app/a") {
		t.Error("Drop(app/a) once more: true")
	}
	if x.Root() != tree.New().Root() {
		t.Errorf("Root: %x", x.Root())
	}
}

// A hash as digits.
func digits(h api.Hash) string { return hex.EncodeToString(h[:]) }

// Roots that were reckoned by another program.
func TestP153Known(t *testing.T) {
	var numbered []api.Pair
	for i := range maxKeys {
		numbered = append(numbered, pair("app/"+strconv.Itoa(i), strconv.Itoa(i)))
	}
	slices.SortFunc(numbered, func(x, y api.Pair) int { return strings.Compare(x.Path, y.Path) })
	for _, x := range []struct {
		l    []api.Pair
		root string
	}{
		{nil, "5efb23699c0ca0ada8f8d7dde1961e4c9a283fadbb7641b7ae568623bbb7155b"},
		{[]api.Pair{{Path: "app/a", Value: "1"}}, "5eaf5d371f7463637fbecf57a6f458d367a6c720f465167338faad028b609fce"},
		{[]api.Pair{{Path: "app/a"}}, "a90f9f1dd14973a27fb9bcef0baf35ee0d4e87fdfe30280cf89eaa2d3647cbe0"},
		{[]api.Pair{{Path: "app/a", Value: "1"}, {Path: "app/ae", Value: "2"}}, "6c6056e44406e7c4ba0b89e57d69815f47f70689f12c3ab1916ff027b92ad60c"},
		{[]api.Pair{{Path: "app/a", Value: "1"}, {Path: "ops/k", Value: "\x00\xff"}}, "fdd2ff948f2dfaafa018b1fa326b70fa23a92fbc78f41a4c4db3298ca2e3d75f"},
		{numbered, "c3ce74a1514cbd1b3233a8b8e808962e438be30909e9264d765f754e5fb9930b"},
	} {
		whole := with(t, x.l...)
		if s := digits(whole.x.Root()); s != x.root {
			t.Errorf("of %s: %s, not %s", show(x.l), s, x.root)
		}
		grown := start(t)
		grown.sets(t, x.l...)
		if s := digits(grown.x.Root()); s != x.root {
			t.Errorf("grown to %s: %s, not %s", show(x.l), s, x.root)
		}
	}
}

// A new tree has no pairs, and nothing to do with another new one.
func TestP151New(t *testing.T) {
	a, b := start(t), start(t)
	a.looks(t)
	a.sets(t, pair("app/a", "1"))
	b.looks(t)
	start(t).looks(t)
	b.sets(t, pair("app/b", "2"))
	a.looks(t)
	if a.x == b.x {
		t.Error("two new trees are one")
	}
}

// No pair, one, as many as there may be, one less and one more, and many more.
func TestP151OfMany(t *testing.T) {
	for n := range maxKeys + 1 {
		with(t, many(n)...)
	}
	for _, n := range []int{0, 1, 2, 47, 48} {
		with(t, many(n)...).looks(t)
	}
	with(t, []api.Pair{}...).looks(t)
	for _, n := range []int{49, 50, 64, 96, 256, 1000, huge} {
		ofTo(t, api.ErrFull, many(n)...)
	}
	for i := range buckets {
		with(t, inOne(i, 48)...).looks(t)
		ofTo(t, api.ErrFull, inOne(i, 49)...)
	}
}

// Paths and values of all kinds.
func TestP151Of(t *testing.T) {
	var l []api.Pair
	for i, p := range goodPaths() {
		l = append(l, pair(p, valued(i)))
		with(t, pair(p, ""))
		with(t, pair(p, valued(32)))
	}
	with(t, l...).looks(t)
	for n := range maxValue + 1 {
		with(t, pair("app/a", valued(n)), pair("app/b", letters(n)))
	}
	for c := range 256 {
		with(t, pair("app/a", string([]byte{byte(c)})))
	}
	var each []api.Pair
	for _, p := range slices.Sorted(slices.Values(oneEach())) {
		each = append(each, pair(p, p))
	}
	with(t, each...).looks(t)
}

// Pairs that may not be: alone, and at each place among others that may.
func TestP151OfWrong(t *testing.T) {
	wrong := []api.Pair{pair("app/x", valued(33)), pair("app/x", valued(34)), pair("app/x", letters(64)), pair("app/x", valued(huge)), pair("", valued(33))}
	for _, p := range noPaths() {
		wrong = append(wrong, pair(p, ""), pair(p, "1"))
	}
	for _, x := range wrong {
		ofTo(t, api.ErrArg, x)
		ofTo(t, api.ErrArg, x, x)
		for _, n := range []int{2, 47, 48, 49, 100} {
			for _, i := range []int{0, 1, n / 2, n - 1} {
				l := many(n)
				l[i] = x
				ofTo(t, api.ErrArg, l...)
			}
		}
	}
}

// Pairs that fall, or are the same: at each place.
func TestP151OfFalls(t *testing.T) {
	for _, n := range []int{2, 3, 47, 48, 49, 60} {
		for i := 1; i < n; i++ {
			l := many(n)
			l[i-1], l[i] = l[i], l[i-1]
			ofTo(t, api.ErrArg, l...)
			l = many(n)
			l[i] = l[i-1]
			ofTo(t, api.ErrArg, l...)
			l[i].Value = "other"
			ofTo(t, api.ErrArg, l...)
			l = many(n)
			l[i].Path = l[0].Path
			ofTo(t, api.ErrArg, l...)
		}
	}
	l := goodPaths()
	for i := range l {
		for j := range l {
			e := api.OK
			if j <= i {
				e = api.ErrArg
			}
			ofTo(t, e, pair(l[i], "1"), pair(l[j], "2"))
		}
	}
	ofTo(t, api.ErrArg, pair("app/b", "1"), pair("app/a", "2"))
	// They rise, but in another bucket's row or in another order of letters they fall.
	with(t, pair("app/5", "1"), pair("app/c", "2"))
	with(t, pair("app/B", "1"), pair("app/a", "2"))
	with(t, pair("app/a", "1"), pair("app/c", "2"))
}

// What may not be comes ahead of how many there are.
func TestP151OfOrder(t *testing.T) {
	for _, n := range []int{49, 50, 100, 1000, huge} {
		for _, x := range []api.Pair{pair("app", ""), pair("app/1", valued(33)), pair("app/0", ""), {}} {
			for _, i := range []int{1, 47, 48, n - 1} {
				l := many(n)
				l[i] = x
				ofTo(t, api.ErrArg, l...)
			}
		}
	}
	ofTo(t, api.ErrArg, slices.Repeat([]api.Pair{pair("app/a", "1")}, 49)...)
	ofTo(t, api.ErrArg, make([]api.Pair, huge)...)
}

// What was handed in may be written over behind Of: the list (in each ofTo), and the texts' own bytes.
func TestP151Kept(t *testing.T) {
	for _, n := range []int{1, 2, 47, 48} {
		var l []api.Pair
		var all [][]byte
		for _, x := range many(n) {
			p, v := []byte(x.Path), []byte(x.Value)
			l = append(l, api.Pair{Path: textOn(p), Value: textOn(v)})
			all = append(all, p, v)
		}
		x, e := tree.Of(l)
		if e != api.OK {
			t.Fatal(e)
		}
		for _, b := range all {
			clear(b)
		}
		a := &asked{x, plainOf(many(n))}
		a.stands(t)
		a.sets(t, pair("app/1000000", "new"))
		a.looks(t)
	}
}

// Lists drawn by chance, right ones and wrong ones.
func TestP151Chance(t *testing.T) {
	r := rand.New(rand.NewSource(151))
	told := map[api.Errno]int{}
	for range 3000 {
		l := many(r.Intn(64))
		if r.Intn(2) > 0 {
			l = slices.DeleteFunc(l, func(api.Pair) bool { return r.Intn(5) == 0 })
		}
		if len(l) > 0 && r.Intn(4) == 0 {
			i := r.Intn(len(l))
			l[i] = one(r, []api.Pair{pair(l[i].Path, valued(33)), pair(l[i].Path, valued(32)), pair(l[i].Path+"x", ""), pair("app", "1"), pair(one(r, l).Path, "1"), pair(one(r, goodPaths()), "1")})
		}
		e := ofOf(l)
		told[e]++
		ofTo(t, e, l...)
	}
	for _, e := range []api.Errno{api.OK, api.ErrArg, api.ErrFull} {
		if told[e] < 200 {
			t.Errorf("%d came %d times", e, told[e])
		}
	}
}

// leaf asks Leaf.
func leaf(t *testing.T, page string) {
	t.Helper()
	if h := tree.Leaf(page); h != hashOf("L"+page) {
		t.Fatalf("Leaf(%.99q) of %d bytes: %x", page, len(page), h)
	}
}

// Texts of all lengths to beyond some blocks, pages, long ones; any text has a leaf.
func TestP151Leaf(t *testing.T) {
	for s, want := range map[string]string{
		"":                   "72dfcfb0c470ac255cde83fb8fe38de8a128188e03ea5ba5b2a93adbea1062fa",
		"\x00":               "1f6f527973a21d4c7d6b16476ef4f57b433b130041ab9fe5100fb72c93066c9e",
		"\x01\x05app/a\x011": "72ec5531fbcccf126249cdd3f803bf9bd46cf90ab8da49834cf770dca0c759ed",
	} {
		if h := tree.Leaf(s); digits(h) != want {
			t.Errorf("Leaf(%q): %x", s, h)
		}
	}
	for n := range 400 {
		leaf(t, letters(n))
		leaf(t, valued(n))
		leaf(t, strings.Repeat("L", n))
		leaf(t, strings.Repeat("\x00", n))
	}
	for c := range 256 {
		leaf(t, string([]byte{byte(c)}))
	}
	for n := range maxKeys + 1 {
		leaf(t, pageOf(many(n)...))
	}
	for _, s := range []string{letters(huge), valued(huge), strings.Repeat("N", 1<<20), noPaths()[3]} {
		leaf(t, s)
	}
}

// inner asks Inner.
func inner(t *testing.T, left, right api.Hash) {
	t.Helper()
	if h := tree.Inner(left, right); h != hashOf("N"+string(left[:])+string(right[:])) {
		t.Fatalf("Inner(%x, %x): %x", left, right, h)
	}
}

// Hashes left and right, turned about, the same, noughts, and each of their bytes another one.
func TestP151Inner(t *testing.T) {
	filled := func(c byte) (h api.Hash) {
		for i := range h {
			h[i] = c
		}
		return h
	}
	for _, x := range []struct {
		left, right api.Hash
		want        string
	}{
		{api.Hash{}, api.Hash{}, "f26258b4eba444dae8da351e3401a948a90649c7a4f69dbbd1a013bdfcf1f2de"},
		{filled(1), filled(2), "555fcb62b431f08fee3528e84264da57764de8389b3bbbdf9c8847f21e9656d8"},
		{filled(2), filled(1), "fc45890de3925ca29b6ea30a14d26ef20196a5012f2ceacf352feefd8ecf64c2"},
	} {
		if h := tree.Inner(x.left, x.right); digits(h) != x.want {
			t.Errorf("Inner(%x, %x): %x", x.left, x.right, h)
		}
	}
	seen := map[api.Hash]bool{}
	left, right := hashOf("left"), hashOf("right")
	for i := range left {
		for _, c := range []byte{1, 0x80, 0xff} {
			l, r := left, right
			l[i] ^= c
			r[i] ^= c
			for _, x := range [][2]api.Hash{{l, right}, {right, l}, {left, r}, {r, left}, {l, r}, {r, l}, {l, l}, {r, r}} {
				inner(t, x[0], x[1])
				seen[tree.Inner(x[0], x[1])] = true
			}
		}
	}
	if len(seen) != 32*3*8 {
		t.Errorf("%d nodes", len(seen))
	}
	// What is handed in stays.
	if left != hashOf("left") || right != hashOf("right") {
		t.Error("Inner changed a hash")
	}
	// A leaf of the same bytes is another node.
	if tree.Inner(left, right) == tree.Leaf(string(left[:])+string(right[:])) {
		t.Error("Inner is Leaf")
	}
	r := rand.New(rand.NewSource(1511))
	for range 1000 {
		r.Read(left[:])
		r.Read(right[:])
		inner(t, left, right)
		inner(t, right, left)
		inner(t, left, left)
	}
}
