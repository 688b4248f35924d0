package omap_test

import (
	"math/rand"
	"slices"
	"strconv"
	"testing"

	"twinlock/api"
	"twinlock/omap"
)

func TestLimits(t *testing.T) {
	if api.MaxKeys != maxKeys || api.MaxOps != maxOps || api.MaxValue != maxValue || api.MaxMount != 8 || api.MaxKey != 24 || api.Put != 1 || api.Delete != 2 {
		t.Fatal("the limits")
	}
}

func TestP131New(t *testing.T) {
	a, b := start(t), start(t)
	if a.m == b.m {
		t.Fatal("New tells one map twice")
	}
	a.sames(t, b, true)
	a.doTo(t, api.OK, put("app/a", "1"))
	b.looks(t)
	a.sames(t, b, false)
	start(t)
}

func TestP131Examples(t *testing.T) {
	if m, e := omap.Of([]api.Pair{{Path: "app/a", Value: "1"}, {Path: "app/a", Value: "2"}}); m != nil || e != api.ErrThere {
		t.Errorf("Of: nil %v, %d", m == nil, e)
	}
}

// Of none, nil and empty, it is a map without paths.
func TestP131None(t *testing.T) {
	for _, l := range [][]api.Pair{nil, {}} {
		m, e := omap.Of(l)
		if m == nil || e != api.OK {
			t.Fatalf("Of(none): nil %v, %d", m == nil, e)
		}
		a := &asked{m: m}
		a.looks(t)
		a.sames(t, start(t), true)
		a.doTo(t, api.OK, put("app/a", "1"))
	}
	ofTo(t, api.OK).looks(t)
}

// Each number of pairs up to the greatest is a map of them, and others may be done to it.
func TestP131Many(t *testing.T) {
	for n := range maxKeys + 1 {
		a := with(t, many(n)...)
		if a.m.Len() != n {
			t.Fatalf("of %d pairs: %d", n, a.m.Len())
		}
		a.doTo(t, api.OK, del("no/path"))
	}
	for _, n := range []int{1, 47, 48} {
		with(t, many(n)...).looks(t)
	}
	for _, n := range []int{49, 50, 96, 128, 255, 256, 256 + 1, 256 + 48, 1 << 16, 1<<16 + 1, huge} {
		ofTo(t, api.ErrFull, many(n)...)
	}
}

// Too many pairs are ErrFull, whatever they are: wrong ones, or one pair again and again.
func TestP131Full(t *testing.T) {
	for _, x := range wrongPairs() {
		for _, i := range []int{0, 24, 47, 48} {
			l := many(49)
			l[i] = x
			ofTo(t, api.ErrFull, l...)
		}
		ofTo(t, api.ErrFull, slices.Repeat([]api.Pair{x}, 49)...)
	}
	ofTo(t, api.ErrFull, slices.Repeat([]api.Pair{pair("app/a", "1")}, 49)...)
	for i := range 48 {
		ofTo(t, api.ErrFull, append(many(48), many(48)[i])...)
	}
}

// wrongPairs are pairs that may not be.
func wrongPairs() (l []api.Pair) {
	for _, p := range noPaths() {
		l = append(l, pair(p, ""), pair(p, "1"))
	}
	for _, n := range []int{33, 34, 64, 255, 256, 256 + 32, huge} {
		l = append(l, pair("app/a", valued(n)), pair("app", valued(n)))
	}
	return l
}

// at is a list of n pairs with x at i.
func at(n, i int, x api.Pair) []api.Pair {
	l := many(n)
	l[i] = x
	return l
}

// A pair that may not be is ErrArg, wherever it stands.
func TestP131Wrong(t *testing.T) {
	for _, x := range wrongPairs() {
		ofTo(t, api.ErrArg, x)
		for _, n := range []int{2, 3, 47, 48} {
			for _, i := range []int{0, 1, n / 2, n - 1} {
				ofTo(t, api.ErrArg, at(n, i, x)...)
			}
		}
	}
	for i := range maxKeys {
		ofTo(t, api.ErrArg, at(maxKeys, i, pair("app", "1"))...)
		ofTo(t, api.ErrArg, at(maxKeys, i, pair("app/a", valued(33)))...)
	}
}

// Values of each length that may be, wherever they stand; paths of each kind.
func TestP131Right(t *testing.T) {
	for n := range maxValue + 1 {
		with(t, pair("app/a", valued(n)))
		for _, i := range []int{0, 24, 47} {
			with(t, at(maxKeys, i, pair(longest(), valued(n)))...)
		}
	}
	for _, p := range goodPaths() {
		with(t, pair(p, ""))
		with(t, pair(p, valued(32)), pair("web/y", "1"))
	}
	var l []api.Pair
	for i, p := range goodPaths() {
		l = append(l, pair(p, valued(i)))
	}
	a := with(t, l...)
	a.looks(t)
	// In whichever row they are, it is the same map.
	for seed := range int64(20) {
		turned := slices.Clone(l)
		rand.New(rand.NewSource(seed)).Shuffle(len(turned), func(i, j int) { turned[i], turned[j] = turned[j], turned[i] })
		a.sames(t, with(t, turned...), true)
	}
	slices.SortFunc(l, func(x, y api.Pair) int {
		if below(x.Path, y.Path) {
			return -1
		}
		return 1
	})
	a.sames(t, with(t, l...), true)
	slices.Reverse(l)
	a.sames(t, with(t, l...), true)
}

// A path that was in a pair ahead is ErrThere, with the same value or another one, wherever both stand.
func TestP131There(t *testing.T) {
	for _, n := range []int{2, 3, 8, 48} {
		for i := range n {
			for j := range i {
				l := many(n)
				l[i] = l[j]
				ofTo(t, api.ErrThere, l...)
				l[i].Value += "x"
				if len(l[i].Value) <= maxValue {
					ofTo(t, api.ErrThere, l...)
				}
			}
		}
	}
	for _, p := range goodPaths() {
		ofTo(t, api.ErrThere, pair(p, ""), pair(p, ""))
		ofTo(t, api.ErrThere, pair(p, "1"), pair("web/y", ""), pair(p, ""))
	}
	// Paths that only begin alike, or differ in one letter, are not there.
	with(t, pair("app/a", "1"), pair("app/aa", "1"), pair("apps/a", "1"), pair("app/A", "1"), pair("ap/a", "1"))
}

// Of two errors in one list the first pair's is told, and in one pair ErrArg goes ahead of ErrThere.
func TestP131Order(t *testing.T) {
	double, long, none := pair("app/a", "2"), pair("app/b", valued(33)), pair("app", "1")
	first := pair("app/a", "1")
	ofTo(t, api.ErrThere, first, double, long)
	ofTo(t, api.ErrArg, first, long, double)
	ofTo(t, api.ErrThere, first, double, none)
	ofTo(t, api.ErrArg, first, none, double)
	ofTo(t, api.ErrArg, none, first, double)
	ofTo(t, api.ErrArg, long, first, double)
	ofTo(t, api.ErrArg, first, pair("app/a", valued(33)))
	ofTo(t, api.ErrThere, first, double, pair("app/a", valued(33)))
	ofTo(t, api.ErrArg, none, none)
	ofTo(t, api.ErrArg, pair("", ""), pair("", ""))
	ofTo(t, api.ErrArg, pair("app", valued(33)))
	ofTo(t, api.ErrArg, pair("app", valued(33)), first, double)
	for _, i := range []int{2, 20, 46} {
		l := at(maxKeys, 1, many(1)[0])
		l[i] = long
		ofTo(t, api.ErrThere, l...)
		l = at(maxKeys, i, many(1)[0])
		l[1] = long
		ofTo(t, api.ErrArg, l...)
	}
	for i := 1; i < maxKeys; i++ {
		ofTo(t, api.ErrArg, at(maxKeys, i, pair(many(1)[0].Path, valued(33)))...)
	}
}

// All lists of up to four pairs, out of some that may be, and some that may not.
func TestP131All(t *testing.T) {
	some := []api.Pair{pair("app/a", "1"), pair("app/a", "2"), pair("app/aa", ""), pair("ops/b", valued(32)), pair("ops/b", valued(33)), pair("app", ""), pair("app/b/c", valued(33))}
	var grow func(l []api.Pair)
	grow = func(l []api.Pair) {
		ofTo(t, ofOf(l), l...)
		if len(l) == 4 {
			return
		}
		for _, x := range some {
			grow(append(l, x))
		}
	}
	grow(make([]api.Pair, 0, 4))
}

// What is handed in may change behind the call: the list, and even the texts' bytes.
func TestP131Memory(t *testing.T) {
	b := []byte("app/a1234ops/b5678")
	l := []api.Pair{{Path: textOn(b[:5]), Value: textOn(b[5:9])}, {Path: textOn(b[9:14]), Value: textOn(b[14:])}}
	m, e := omap.Of(l)
	if e != api.OK {
		t.Fatal(e)
	}
	copy(b, "web/zxxxxweb/yxxxx")
	l[0], l[1] = pair("no/path", "0"), api.Pair{}
	a := &asked{m, puts([]api.Pair{pair("app/a", "1234"), pair("ops/b", "5678")})}
	a.looks(t)
	a.doTo(t, api.OK, del("app/a"))
}

// Maps of one list go their own ways.
func TestP131Own(t *testing.T) {
	l := many(10)
	a, b := with(t, l...), with(t, l...)
	a.sames(t, b, true)
	a.doTo(t, api.OK, del(l[3].Path))
	b.stands(t)
	b.doTo(t, api.OK, put(l[4].Path, "other"))
	a.stands(t)
	a.sames(t, b, false)
}

// Drawn lists: of few paths, of many, right and wrong.
func TestP131Chance(t *testing.T) {
	count := map[api.Errno]int{}
	for seed := range int64(4000) {
		r := rand.New(rand.NewSource(seed))
		n := r.Intn(1 + int(seed)%72)
		var l []api.Pair
		for i := range n {
			x := pair("app/"+strconv.Itoa(i), valued(r.Intn(33)))
			if seed%2 == 0 && r.Intn(40) == 0 {
				x.Path = "app/" + strconv.Itoa(r.Intn(60))
			}
			if seed%3 == 0 && r.Intn(40) == 0 {
				x.Path = one(r, noPaths())
			}
			if seed%5 == 0 && r.Intn(40) == 0 {
				x.Value = valued(33 + r.Intn(3))
			}
			l = append(l, x)
		}
		r.Shuffle(n, func(i, j int) { l[i], l[j] = l[j], l[i] })
		e := ofOf(l)
		ofTo(t, e, l...)
		count[e]++
	}
	for _, e := range []api.Errno{api.OK, api.ErrFull, api.ErrArg, api.ErrThere} {
		if count[e] < 100 {
			t.Errorf("%d lists were answered %d", count[e], e)
		}
	}
}
