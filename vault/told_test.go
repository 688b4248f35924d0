package vault_test

import (
	"math/rand"
	"reflect"
	"slices"
	"testing"
	"unsafe"

	"twinlock/api"
	"twinlock/vault"
)

// Of a vault that is none all calls tell zeros, nil, none, and what would do something ErrNil, ahead of all other errors.
func TestP174Nil(t *testing.T) {
	for _, v := range nones() {
		for _, m := range append(wrongs(), metas()...) {
			is(t, v.Set(m), api.ErrNil)
			for _, at := range []int{-1, 0, 1} {
				is(t, v.Install(m, most(48+at), at, 1), api.ErrNil)
				is(t, v.Install(m, nil, at, at), api.ErrNil)
			}
		}
		for _, ops := range operations() {
			is(t, v.Commit(batchAt(1, 1, ops...)), api.ErrNil)
			is(t, v.Commit(batchAt(0, 0, ops...)), api.ErrNil)
		}
		is(t, v.Rotate(), api.ErrNil)
		if m := v.Meta(); !reflect.DeepEqual(m, vault.Meta{Mounts: m.Mounts}) || len(m.Mounts) > 0 {
			t.Errorf("Meta: %v", m)
		}
		at, epoch := v.Place()
		l, prev := v.Batches()
		if at != 0 || epoch != 0 || len(l) != 0 || prev != 0 || v.Key() != 0 || v.Boot() != 0 {
			t.Errorf("%d %d, %v, %d, %d, %d", at, epoch, l, prev, v.Key(), v.Boot())
		}
		if v.Map() != nil {
			t.Error("a map of none")
		}
	}
}

// wipe writes over a text that was told, wherever else it may be kept.
func wipe(text string) {
	b := unsafe.Slice(unsafe.StringData(text), len(text))
	for i := range b {
		b[i] ^= 0x55
	}
}

// roomOf writes over a list's spare room.
func roomOf[T any](l []T, x T) {
	for i := len(l); i < cap(l); i++ {
		l[:cap(l)][i] = x
	}
}

// wipeAll writes over all that a vault tells: texts, lists, and their spare room.
func wipeAll(v *vault.Vault) {
	m := v.Meta()
	wipe(m.Secret)
	for i := range m.Mounts {
		wipe(m.Mounts[i].Name)
		m.Mounts[i] = wildMount
	}
	roomOf(m.Mounts, wildMount)
	l, _ := v.Batches()
	for i, b := range l {
		for k, o := range b.Ops {
			wipe(o.Path)
			wipe(o.Value)
			b.Ops[k] = wildOp
		}
		roomOf(b.Ops, wildOp)
		l[i] = api.Batch{Index: -1}
	}
	roomOf(l, api.Batch{Index: -1})
	pairs := v.Map().All()
	for i, x := range pairs {
		wipe(x.Path)
		wipe(x.Value)
		pairs[i] = wildPair
	}
	x := v.Map()
	x.Do([]api.Op{put("over/a", "1"), del("app/k1"), put("app/k2", "over"), del(longest(0))})
	for _, y := range x.All() {
		x.Do([]api.Op{del(y.Path)})
	}
}

// What is told is new memory: writing over it changes nothing, behind each kind of call.
func TestP174Memory(t *testing.T) {
	a := fresh(t)
	look := func() {
		t.Helper()
		for range 2 {
			wipeAll(a.v)
			a.tells(t)
		}
		a.lasts(t)
	}
	look()
	for i := range 60 {
		switch i % 10 {
		default:
			a.commits(t, 1)
		case 1:
			is(t, a.set(t, metas()[i/10]), api.OK)
		case 3:
			if i > 30 {
				is(t, a.install(t, greatest(), most(18), i, 1), api.OK)
			}
		case 5:
			is(t, a.commit(t, a.told.next(put("app/z", ""), del("app/z"), put("app/y", some(32, i)), del("app/k1"))), api.OK)
		case 7:
			is(t, a.rotate(t), api.OK)
		case 9:
			a = a.again(t)
		}
		look()
	}
}

// No two lists of one answer share memory: what is written into the spare room of one is not seen in the others.
func TestP174Lists(t *testing.T) {
	a := fresh(t)
	for i := range 10 {
		is(t, a.commit(t, a.told.next(put("app/a", some(i, i)), put("app/b", ""))), api.OK)
	}
	for range 2 {
		l, _ := a.v.Batches()
		for i := range l {
			_ = append(l[i].Ops, wildOp, wildOp)
		}
		for i := range l {
			if want := []api.Op{put("app/a", some(i, i)), put("app/b", "")}; !slices.Equal(l[i].Ops, want) {
				t.Fatalf("the batch %d has now %v", i, l[i].Ops)
			}
		}
		a.tells(t)
		a = a.again(t)
	}
}

// Two maps that were told go their own ways.
func TestP174Map(t *testing.T) {
	a := fresh(t).commits(t, 5)
	x, y := a.v.Map(), a.v.Map()
	is(t, x.Do([]api.Op{put("x/x", "1"), del("app/k0")}), api.OK)
	if !sameMap(y, a.told.stand().pairs) || sameMap(x, a.told.stand().pairs) {
		t.Error("they go one way")
	}
	is(t, a.commit(t, a.told.next(put("app/k1", "other"))), api.OK)
	if v, _ := y.Get("app/k1"); v != "v1" {
		t.Errorf("the map that was told ahead has %q", v)
	}
	for range 48 {
		y.Do([]api.Op{put(longest(y.Len()), "1")})
	}
	a.tells(t)
	a.lasts(t)
}

// A vault tells the same as often as it is asked, and changes nothing on the disk by that.
func TestP174Often(t *testing.T) {
	a := fresh(t)
	story(t, a)
	was := texts(a.disk)
	a.disk.Fuse(0)
	for range 50 {
		a.tells(t)
	}
	if a.disk.Down() || !slices.Equal(texts(a.disk), was) {
		t.Error("to tell something is an act")
	}
	a.disk.Fuse(-1)
	a.commits(t, 1)
	// With the power off it tells what it had.
	off(t, a.disk)
	a.tells(t)
}

// Two vaults on two disks, and twins of one disk, know nothing of each other.
func TestP174Apart(t *testing.T) {
	r := rand.New(rand.NewSource(174))
	l := []*asked{fresh(t), fresh(t)}
	l = append(l, l[0].fork(t))
	for i := range 200 {
		a := l[r.Intn(len(l))]
		switch r.Intn(4) {
		case 0:
			is(t, a.rotate(t), api.OK)
		case 1:
			is(t, a.set(t, metas()[r.Intn(len(metas()))]), api.OK)
		case 2:
			a.commits(t, r.Intn(5))
		default:
			if i%5 == 0 {
				is(t, a.install(t, metas()[i%3], most(r.Intn(19)), i+1, 1), api.OK)
			}
		}
		for _, b := range l {
			b.tells(t)
		}
	}
	for _, b := range l {
		b.lasts(t)
	}
}
