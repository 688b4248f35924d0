package walk_test

import (
	"cmp"
	"math/rand"
	"slices"
	"testing"

	"twinlock/walk"
)

// As many as are asked for, from one to sixteen of the leaves at once: each number, below, among and above them.
func TestP162Want(t *testing.T) {
	var l []walk.Ask
	for i := range buckets {
		l = append(l, leaf(i))
		base := each("1")
		to := goalOf(base...)
		for k := range i + 1 {
			to = to.with(k, pair(oneEach()[k], "2"))
		}
		a := start(t, to, base...)
		for !slices.Equal(a.wants(), l) {
			a.looks(t)
			a.answers(t, a.wants()[0])
		}
		a.looks(t)
		for n := range i + 3 {
			if got := a.w.Want(n); !slices.Equal(got, l[:min(n, len(l))]) {
				t.Errorf("Want(%d) of %d: %v", n, len(l), got)
			}
		}
		for _, n := range []int{-1, least, 0} {
			if got := a.w.Want(n); len(got) != 0 {
				t.Errorf("Want(%d): %v", n, got)
			}
		}
		if got := a.w.Want(most); !slices.Equal(got, l) {
			t.Errorf("Want of the greatest int: %v", got)
		}
	}
}

// Nodes of all levels at once, whichever of them were answered ahead of the others: by level, then by number.
func TestP162Row(t *testing.T) {
	for _, x := range []struct {
		answers, want []walk.Ask
	}{
		{nil, []walk.Ask{{Level: 0, I: 0}}},
		{[]walk.Ask{{Level: 0, I: 0}}, []walk.Ask{{Level: 1, I: 0}, {Level: 1, I: 1}}},
		{[]walk.Ask{{Level: 0, I: 0}, {Level: 1, I: 0}}, []walk.Ask{{Level: 1, I: 1}, {Level: 2, I: 0}, {Level: 2, I: 1}}},
		{[]walk.Ask{{Level: 0, I: 0}, {Level: 1, I: 1}}, []walk.Ask{{Level: 1, I: 0}, {Level: 2, I: 2}, {Level: 2, I: 3}}},
		{way(0)[:4], []walk.Ask{{Level: 1, I: 1}, {Level: 2, I: 1}, {Level: 3, I: 1}, {Level: 4, I: 0}, {Level: 4, I: 1}}},
		{way(15)[:4], []walk.Ask{{Level: 1, I: 0}, {Level: 2, I: 2}, {Level: 3, I: 6}, {Level: 4, I: 14}, {Level: 4, I: 15}}},
		{way(15), []walk.Ask{{Level: 1, I: 0}, {Level: 2, I: 2}, {Level: 3, I: 6}, {Level: 4, I: 14}}},
		{append(way(10), walk.Ask{Level: 1, I: 0}), []walk.Ask{{Level: 2, I: 0}, {Level: 2, I: 1}, {Level: 2, I: 3}, {Level: 3, I: 4}, {Level: 4, I: 11}}},
		{append(way(9)[:4], way(3)[1:]...), []walk.Ask{{Level: 2, I: 1}, {Level: 2, I: 3}, {Level: 3, I: 0}, {Level: 3, I: 5}, {Level: 4, I: 2}, {Level: 4, I: 8}, {Level: 4, I: 9}}},
	} {
		a := start(t, goalOf(each("2")...), each("1")...)
		a.answers(t, x.answers...)
		if l := a.w.Want(31); !slices.Equal(l, x.want) {
			t.Errorf("behind %v it asks for %v, not %v", x.answers, l, x.want)
		}
		a.looks(t)
	}
}

// Answers in rows drawn by chance: what is asked for is always told by level, then by number.
func TestP162RowChance(t *testing.T) {
	r := rand.New(rand.NewSource(1620))
	for range 60 {
		a := start(t, goalOf(each("2")...), each("1")...)
		a.leads(t, func(l []walk.Ask) walk.Ask {
			got := a.w.Want(most)
			if !slices.IsSortedFunc(got, func(x, y walk.Ask) int { return cmp.Compare(x.Level*100+x.I, y.Level*100+y.I) }) {
				t.Fatalf("it asks for %v", got)
			}
			return one(r, l)
		})
		if len(a.ever) != count {
			t.Fatalf("%d nodes were asked for", len(a.ever))
		}
	}
}

// Which nodes are asked for, if one bucket is another: those above it, one by one.
func TestP162One(t *testing.T) {
	for i, p := range oneEach() {
		for _, n := range []int{0, 1, 20, 47} {
			base := many(n)
			a := start(t, goalOf(rising(append(many(n), pair(p, "1")))...), base...)
			for _, s := range way(i) {
				if l := a.w.Want(9); !slices.Equal(l, []walk.Ask{s}) {
					t.Fatalf("to %s: it asks for %v, not %v", p, l, s)
				}
				a.answers(t, s)
			}
			a.ends(t)
		}
	}
}
