package vault_test

import (
	"math"
	"slices"
	"testing"

	"twinlock/api"
	"twinlock/vault"
)

// operations are lists of them that may be, and such as may not.
func operations() [][]api.Op {
	one := put("app/a", "1")
	four := []api.Op{one, del("app/a"), put("ops/b", ""), put(longest(3), some(32, 3))}
	l := [][]api.Op{
		nil,
		{},
		{one},
		{del("app/zzz")},
		four,
		append(slices.Clone(four), one),
		make([]api.Op, 50),
		{{}},
		{{Kind: 3, Path: "app/a"}},
		{one, {Kind: 255, Path: "App", Value: some(33, 1)}},
		{put("App/x", "")},
		{one, one, put("app", some(33, 1))},
		{put("app/a", some(33, 1))},
		{one, put("app/a", some(1000, 1))},
		{{Kind: 2, Path: "app/a", Value: "1"}},
		{{Kind: 2, Path: "app/a", Value: some(33, 1)}},
		{one, one, one, {Kind: 2, Path: "app/a", Value: "x"}},
		{put("app/\x00", "1")},
	}
	// In a map of 47 of the longest paths: two more than there may be, one more ahead of a delete, one more.
	return append(l, []api.Op{put("app/a", "1"), put("app/b", "2")}, []api.Op{put("app/a", "1"), put("app/b", "2"), del(longest(0))}, []api.Op{put("new/a", "1")}, []api.Op{put(longest(1), "over")})
}

// places are numbers about one.
func places(n int) []int {
	return []int{math.MinInt, -1, 0, n - 1, n, n + 1, n + 2, n + 100, maxIndex - 1, maxIndex, maxIndex + 1, math.MaxInt}
}

// product asks Commit of batches of all such numbers and operations, each of a vault that was opened anew, unless it was refused.
func product(t *testing.T, a *asked) {
	t.Helper()
	b := a.fork(t)
	was, done := texts(b.disk), 0
	for _, index := range places(a.told.at) {
		for _, epoch := range places(a.told.epoch) {
			for _, ops := range operations() {
				if e := b.commit(t, batchAt(index, epoch, ops...)); e == api.OK {
					b.lasts(t)
					b = a.fork(t)
					was = texts(b.disk)
					done++
				}
			}
			if b.disk.Waits() > 0 || !slices.Equal(texts(b.disk), was) {
				t.Fatal("what was refused changed the disk")
			}
		}
	}
	if done == 0 && a.told.at < maxIndex {
		t.Fatal("none was done")
	}
}

// All errors of Commit, and their row, at some places.
func TestP172Errors(t *testing.T) {
	t.Parallel()
	for _, p := range [][2]int{{0, 0}, {1, 1}, {5, 3}, {9, math.MaxInt}, {maxIndex - 1, 1}, {maxIndex, 7}} {
		for _, n := range []int{0, 47, 48} {
			a := fresh(t)
			is(t, a.install(t, metas()[1], most(n), p[0], p[1]), api.OK)
			product(t, a)
		}
	}
	// With batches, up to all that there may be.
	for _, n := range []int{1, 23, 24} {
		a := fresh(t)
		is(t, a.install(t, vault.Meta{}, most(47), 0, 0), api.OK)
		for i := range n {
			is(t, a.commit(t, batchAt(i+1, 2+i/9, put(longest(i), "x"))), api.OK)
		}
		product(t, a)
	}
}

// An Index that is At, At + 1, At + 2, and an Epoch below, at and above AtEpoch.
func TestP172Place(t *testing.T) {
	a := fresh(t)
	for _, x := range []struct {
		index, epoch int
		want         api.Errno
	}{
		{0, 1, api.ErrArg}, {2, 1, api.ErrArg}, {1, 0, api.ErrArg}, {1, -1, api.ErrArg}, {1, 2, api.OK},
		{1, 2, api.ErrArg}, {3, 2, api.ErrArg}, {2, 1, api.ErrArg}, {2, 2, api.OK},
		{3, 1, api.ErrArg}, {3, 5, api.OK}, {4, 4, api.ErrArg}, {4, 5, api.OK}, {4, 5, api.ErrArg},
		{5, math.MaxInt, api.OK}, {6, math.MaxInt - 1, api.ErrArg}, {6, math.MaxInt, api.OK},
	} {
		is(t, a.commit(t, batchAt(x.index, x.epoch, put("app/a", "1"))), x.want)
		a.lasts(t)
	}
}

// Full and not full: how many paths there are is asked behind the last operation.
func TestP172Full(t *testing.T) {
	a := fresh(t)
	for i := range 12 {
		is(t, a.commit(t, a.told.next(put(longest(4*i), "1"), put(longest(4*i+1), "2"), put(longest(4*i+2), "3"), put(longest(4*i+3), "4"))), api.OK)
	}
	is(t, a.commit(t, a.told.next(put("app/a", "1"))), api.ErrFull)
	is(t, a.commit(t, a.told.next(del("app/a"), put("app/a", "1"))), api.ErrFull)
	is(t, a.commit(t, a.told.next(put("app/a", "1"), del(longest(7)), put("app/b", ""))), api.ErrFull)
	is(t, a.commit(t, a.told.next(put("app/a", "1"), del(longest(7)))), api.OK)
	is(t, a.commit(t, a.told.next(put("app/a", "1"), put("app/b", "2"), del("app/b"), del("app/c"))), api.OK)
	a.lasts(t)
	a = a.again(t)
	is(t, a.commit(t, a.told.next(put("app/b", "1"))), api.ErrFull)
	is(t, a.commit(t, a.told.next(del("app/a"))), api.OK)
	is(t, a.commit(t, a.told.next(put("app/b", "1"))), api.OK)
	a.lasts(t)
}

// rowsAre asks how many batches there are, of which Indexes, and what Prev is.
func rowsAre(t *testing.T, a *asked, n, first, prev int) {
	t.Helper()
	l, p := a.v.Batches()
	if len(l) != n || p != prev || n > 0 && (l[0].Index != first || l[n-1].Index != first+n-1) {
		t.Fatalf("Batches are %v, %d; not %d from %d on, %d", l, p, n, first, prev)
	}
}

// Batches and Prev behind each of a hundred batches, of which the Epoch rises; and all is there when it is opened again.
func TestP172Rows(t *testing.T) {
	epoch := func(i int) int { return 1 + i/5 }
	a := fresh(t)
	rowsAre(t, a, 0, 0, 0)
	for i := 1; i <= 100; i++ {
		is(t, a.commit(t, batchAt(i, epoch(i), put(longest(i%15), some(i%33, i)))), api.OK)
		n := (i-1)%maxRows + 1
		prev := 0
		if i > maxRows {
			prev = epoch(i - n)
		}
		rowsAre(t, a, n, i-n+1, prev)
		switch i {
		case 23, 24, 47, 48, 71, 72, 73:
			a.lasts(t)
			a = a.again(t)
			rowsAre(t, a, n, i-n+1, prev)
		case 25, 49, 50:
			b := a.fork(t)
			rowsAre(t, b, n, i-n+1, prev)
			b.commits(t, 30).lasts(t)
		}
		a.lasts(t)
	}
}

// Batches without operations count like others.
func TestP172Empty(t *testing.T) {
	a := fresh(t)
	for i := range 3 * maxRows {
		is(t, a.commit(t, batchAt(i+1, i+1)), api.OK)
		a.lasts(t)
	}
	rowsAre(t, a, maxRows, 2*maxRows+1, 2*maxRows)
}

// widest is the batch of most bytes of that Index, in which four of the longest paths have values.
func widest(index int) api.Batch {
	var ops []api.Op
	for i := range maxOps {
		n := (index%12)*4 + i
		ops = append(ops, put(longest(n), some(maxValue, index+n)))
	}
	return batchAt(index, math.MaxInt, ops...)
}

// Batches of the greatest size, one behind the other, up to the greatest Index, in a map of the greatest size, under a key whose number is long, and with the greatest meta.
func TestP172Widest(t *testing.T) {
	t.Parallel()
	a := fresh(t)
	for range 1 << 14 {
		is(t, a.v.Rotate(), api.OK)
		is(t, a.told.rotate(), api.OK)
	}
	is(t, a.install(t, greatest(), most(maxKeys), maxIndex-80, math.MaxInt), api.OK)
	for i := maxIndex - 79; i <= maxIndex; i++ {
		is(t, a.commit(t, widest(i)), api.OK)
		a.lasts(t)
		if i%7 == 0 {
			a = a.again(t)
		}
	}
	is(t, a.commit(t, widest(maxIndex)), api.ErrArg)
	is(t, a.commit(t, widest(maxIndex+1)), api.ErrArg)
	is(t, a.install(t, greatest(), most(maxKeys), maxIndex, math.MaxInt), api.OK)
	is(t, a.commit(t, widest(maxIndex+1)), api.ErrArg)
	a.lasts(t)
}

// What an open vault doesn't read does no harm to it: whichever sector is spoilt, a call is done, and told.
func TestP172Spoilt(t *testing.T) {
	t.Parallel()
	a := fresh(t)
	story(t, a)
	is(t, a.install(t, greatest(), most(20), 3, 1), api.OK)
	a.commits(t, maxRows-1)
	for i := range sectors {
		b := a.fork(t)
		is(t, b.disk.Spoil(i, i%61, "\x01\x80\xff\x10"), api.OK)
		b.commits(t, 1)
		is(t, b.rotate(t), api.OK)
		is(t, b.set(t, metas()[i%len(metas())]), api.OK)
		b.commits(t, 1)
		is(t, b.commit(t, b.told.next(put("app/x", "1"))), api.OK)
		is(t, b.install(t, metas()[1], most(48), 70, 7), api.OK)
		is(t, b.commit(t, b.told.next(del(longest(1)))), api.OK)
		is(t, b.install(t, metas()[2], most(48), 80, 8), api.OK)
		// What was written over is no harm any more; else it is refused, and never told as something else.
		if v, e := vault.Open(b.disk, b.master); e == api.OK {
			b.told = b.told.opened()
			(&asked{b.disk, b.master, v, b.told}).tells(t)
		} else {
			is(t, e, api.ErrSum)
		}
	}
}
