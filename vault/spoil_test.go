package vault_test

import (
	"math/rand"
	"slices"
	"strings"
	"testing"

	"twinlock/api"
	"twinlock/disk"
	"twinlock/vault"
)

// harms are texts of n bytes with which bytes are spoilt: the first and the last one of them are others then.
func harms(n int, r *rand.Rand) []string {
	ends, any := make([]byte, n), make([]byte, n)
	ends[0], ends[n-1] = 1, 0x80
	r.Read(any)
	any[0] |= 4
	any[n-1] |= 16
	return []string{strings.Repeat("\x01", n), strings.Repeat("\xff", n), string(ends), string(any)}
}

// barred spoils a sector, and asks Open, which must be ErrSum; then it is as it was.
func barred(t *testing.T, d *disk.Disk, master string, i, at int, x string) {
	t.Helper()
	is(t, d.Spoil(i, at, x), api.OK)
	if v, e := vault.Open(d, master); v != nil || e != api.ErrSum {
		t.Fatalf("the sector %d is spoilt from %d on by %x, and Open is answered %p, %d", i, at, x, v, e)
	}
	is(t, d.Spoil(i, at, x), api.OK)
}

// harmed spoils each sector that a vault wrote, at every step-th byte, each time otherwise; of some sectors at each byte in all ways.
func harmed(t *testing.T, a *asked, step int) {
	t.Helper()
	d := a.disk.Twin()
	was := texts(d)
	r := rand.New(rand.NewSource(int64(step)))
	l := written(d)
	if len(l) == 0 {
		t.Fatal("no sector was written")
	}
	for k, i := range l {
		for at := k % step; at < size; at += step {
			n := 1 + r.Intn(min(4, size-at))
			barred(t, d, a.master, i, at, harms(n, r)[r.Intn(4)])
		}
		if k%61 > 0 {
			continue
		}
		for at := range size {
			for n := 1; n <= min(4, size-at); n++ {
				for _, x := range harms(n, r) {
					barred(t, d, a.master, i, at, x)
				}
			}
		}
	}
	if !slices.Equal(texts(d), was) || d.Waits() > 0 {
		t.Fatal("an Open that was refused changed the disk")
	}
	openOn(t, d, a.master, a.told.opened())
}

// Each sector that a vault wrote, of whatever kind, that counts or doesn't any more.
func TestP176Spoilt(t *testing.T) {
	t.Parallel()
	for i, a := range grown(t) {
		harmed(t, a, 1+i)
	}
	a := fresh(t)
	is(t, a.install(t, greatest(), most(48), maxIndex-24, 1), api.OK)
	for i := maxIndex - 23; i <= maxIndex; i++ {
		b := widest(i)
		b.Epoch = 1
		is(t, a.commit(t, b), api.OK)
	}
	is(t, a.set(t, vault.Meta{}), api.OK)
	harmed(t, a, 9)
}

// What a call left on the disk in which the power went was written by a vault, too.
func TestP176Leavings(t *testing.T) {
	t.Parallel()
	first := fresh(t).commits(t, 3)
	for k, c := range calls(first.told) {
		for acts := 1; acts < 8; acts += 1 + k%3 {
			a := first.fork(t)
			may := mayBe(a.told, c)
			a.disk.Fuse(acts)
			if c.do(a.v) == api.OK {
				continue
			}
			a.disk.Crash([]int{1, 0, 1, 1, 1, 0, 1})
			x, _ := found(t, a.disk, a.master, may)
			harmed(t, x, 16)
		}
	}
	// A blank disk, of which the first Open was broken off.
	d := newDisk(t, sectors)
	d.Fuse(1)
	_, e := vault.Open(d, "master")
	is(t, e, api.ErrDown)
	d.Crash([]int{1, 1, 1, 1, 1})
	for _, i := range written(d) {
		for at := range size - 3 {
			barred(t, d, "master", i, at, "\x10\x20\x00\x01")
		}
	}
}

// Two and more sectors that are spoilt; one that is spoilt twice alike is as it was.
func TestP176Two(t *testing.T) {
	a := fresh(t)
	story(t, a)
	d := a.disk
	l := written(d)
	r := rand.New(rand.NewSource(6))
	for range 300 {
		i, k := l[r.Intn(len(l))], l[r.Intn(len(l))]
		if i == k {
			continue
		}
		at := r.Intn(60)
		is(t, d.Spoil(i, at, "\x01\x00\x02"), api.OK)
		barred(t, d, a.master, k, r.Intn(60), "\x80\xff\x00\x01")
		refuses(t, d, a.master, api.ErrSum)
		is(t, d.Spoil(i, at, "\x01\x00\x02"), api.OK)
	}
	a.again(t).lasts(t)
	for _, i := range l {
		is(t, d.Spoil(i, i%61, "\x01\x02\x03\x04"), api.OK)
	}
	refuses(t, d, a.master, api.ErrSum)
}

// What was sealed under elder keys is there: batches, a map and a meta under many of them, opened anew by each.
func TestP177Keys(t *testing.T) {
	a := fresh(t)
	for i := range 60 {
		is(t, a.commit(t, a.told.next(put("app/k"+string(rune('a'+i%26)), some(i%33, i)))), api.OK)
		for range i % 4 {
			is(t, a.rotate(t), api.OK)
		}
		a.lasts(t)
		if i%13 == 5 {
			a = a.again(t)
		}
	}
	is(t, a.install(t, greatest(), most(40), 5, 5), api.OK)
	for i := range 3 * maxRows {
		rotateTo(t, a, a.told.key+1+i*7)
		is(t, a.commit(t, a.told.next(put(longest(i%40), "x"))), api.OK)
		if i%5 == 0 {
			a.lasts(t)
		}
	}
	a = a.again(t)
	rotateTo(t, a, 20000)
	a.lasts(t)
	a = a.again(t)
	is(t, a.set(t, metas()[1]), api.OK)
	a.lasts(t)
	// All that is there is of elder keys.
	rotateTo(t, a, 20001)
	a.again(t).commits(t, 1).lasts(t)
}

// A key that rotates ahead of all else, and a vault of which nothing but the key was ever changed.
func TestP177First(t *testing.T) {
	a := fresh(t)
	is(t, a.rotate(t), api.OK)
	a = a.again(t)
	is(t, a.rotate(t), api.OK)
	a.commits(t, 30)
	a.again(t).lasts(t)
	b := fresh(t)
	for range 5 {
		is(t, b.rotate(t), api.OK)
		b = b.again(t)
	}
	b.lasts(t)
}
