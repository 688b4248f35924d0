package vault_test

import (
	"math"
	"slices"
	"strings"
	"testing"

	"twinlock/api"
	"twinlock/vault"
)

// wrongs are metas that aren't right.
func wrongs() (l []vault.Meta) {
	for _, f := range []func(m *vault.Meta){
		func(m *vault.Meta) { m.Role = -1 },
		func(m *vault.Meta) { m.Role = 4 },
		func(m *vault.Meta) { m.Role = math.MinInt },
		func(m *vault.Meta) { m.Role = 1 << 32 },
		func(m *vault.Meta) { m.Seen = -1 },
		func(m *vault.Meta) { m.Grant = -1 },
		func(m *vault.Meta) { m.Grant = math.MinInt },
		func(m *vault.Meta) { m.Mounts = mounts("App") },
		func(m *vault.Meta) { m.Mounts = mounts("app", "app!") },
		func(m *vault.Meta) { m.Mounts = mounts("a", "b", "c", "d", "e") },
		func(m *vault.Meta) { m.Mounts = make([]api.Mount, 1) },
		func(m *vault.Meta) { m.Secret = some(65, 1) },
		func(m *vault.Meta) { m.Secret = some(100000, 1) },
	} {
		m, n := metas()[1], vault.Meta{}
		f(&m)
		f(&n)
		l = append(l, m, n)
	}
	return l
}

// Metas of all kinds, one behind the other: each is there till the next one is put; what isn't right changes nothing.
func TestP173Set(t *testing.T) {
	a := fresh(t)
	for _, m := range wrongs() {
		is(t, a.set(t, m), api.ErrArg)
	}
	if len(written(a.disk)) != len(written(fresh(t).disk)) {
		t.Error("what was refused was written")
	}
	for round := range 3 {
		for i, m := range metas() {
			is(t, a.set(t, m), api.OK)
			a.lasts(t)
			is(t, a.set(t, wrongs()[(i+round)%len(wrongs())]), api.ErrArg)
			a.lasts(t)
			is(t, a.set(t, m), api.OK)
			if i%3 == round {
				a.commits(t, i*4)
				a = a.again(t)
			}
		}
	}
}

// Each field alone is put, and each Role.
func TestP173Fields(t *testing.T) {
	a := fresh(t)
	for role := range 4 {
		for _, m := range []vault.Meta{{Role: role}, {Role: role, Seen: 1}, {Role: role, Grant: 1}, {Role: role, Seen: math.MaxInt, Grant: 1 << 40}, {Role: role, Mounts: mounts("app")}, {Role: role, Mounts: mounts("app!")}, {Role: role, Mounts: mounts("a", "b!", "c", "d!")}, {Role: role, Secret: "s"}} {
			is(t, a.set(t, m), api.OK)
			a = a.again(t)
		}
	}
	for c := range 256 {
		is(t, a.set(t, vault.Meta{Secret: strings.Repeat(string([]byte{byte(c)}), c%65)}), api.OK)
		a.lasts(t)
	}
}

// Places that may be, and such as may not, with metas and pairs that may be, and such as may not: the row of the errors.
func TestP173Install(t *testing.T) {
	t.Parallel()
	ends := []int{math.MinInt, -1, 0, 1, 2, maxIndex - 1, maxIndex, maxIndex + 1, math.MaxInt}
	over := append(most(3), api.Pair{Path: longest(1), Value: "x"})
	lists := [][]api.Pair{
		nil,
		{},
		most(1),
		most(48),
		most(49),
		over,
		append(most(48), most(1)...),
		{{Path: "app", Value: "1"}},
		{{Path: "app/a", Value: some(33, 1)}},
		{{}},
		append(most(2), api.Pair{Path: "App/a"}, api.Pair{Path: longest(0)}),
		{{Path: "z/z", Value: ""}, {Path: "a/a", Value: "\x00"}, {Path: "m/m", Value: some(32, 1)}},
	}
	a := fresh(t).commits(t, 5)
	for _, at := range ends {
		for _, epoch := range ends {
			for i, l := range lists {
				for _, m := range []vault.Meta{metas()[(i+at)&3], greatest(), wrongs()[i%len(wrongs())]} {
					if a.install(t, m, l, at, epoch) != api.OK {
						continue
					}
					a.lasts(t)
					rowsAre(t, a, 0, 0, epoch)
				}
			}
		}
		a = a.again(t)
	}
}

// More pairs than there may be, very many of them.
func TestP173Many(t *testing.T) {
	a := fresh(t).commits(t, 2)
	is(t, a.install(t, vault.Meta{}, slices.Repeat([]api.Pair{{Path: "a"}}, 50000), 1, 1), api.ErrFull)
	is(t, a.install(t, vault.Meta{Role: 9}, slices.Repeat([]api.Pair{{Path: "a"}}, 50), 1, 1), api.ErrArg)
	is(t, a.install(t, vault.Meta{}, slices.Repeat([]api.Pair{{Path: "a"}}, 50), 1, 0), api.ErrArg)
	is(t, a.install(t, vault.Meta{}, slices.Repeat([]api.Pair{{Path: "a/b"}}, 48), 1, 1), api.ErrThere)
	is(t, a.install(t, vault.Meta{}, slices.Repeat([]api.Pair{{Path: "a"}}, 48), 1, 1), api.ErrArg)
	a.lasts(t)
}

// Commit goes on behind an Install at its place, and nowhere else.
func TestP173Commit(t *testing.T) {
	for _, p := range [][2]int{{0, 0}, {1, 1}, {1, math.MaxInt}, {7, 3}, {1 << 40, 1 << 20}, {maxIndex - 60, 2}} {
		for _, n := range []int{0, 1, 20, 48} {
			a := fresh(t).commits(t, 3)
			is(t, a.install(t, metas()[1], most(n), p[0], p[1]), api.OK)
			at, epoch := p[0], p[1]
			for _, b := range []api.Batch{batchAt(at, epoch), batchAt(at+2, max(epoch, 1)), batchAt(at+1, epoch-1), batchAt(4, 1)} {
				if b.Index != at+1 || b.Epoch < epoch {
					is(t, a.commit(t, b), api.ErrArg)
				}
			}
			for i := range 2*maxRows + 2 {
				is(t, a.commit(t, batchAt(at+1+i, max(epoch, 1), del(longest(i)))), api.OK)
			}
			a.lasts(t)
			rowsAre(t, a, 2, at+2*maxRows+1, max(epoch, 1))
		}
	}
}

// Install upon Install, with few and many pairs by turns, and batches between.
func TestP173Again(t *testing.T) {
	a := fresh(t)
	for i, n := range []int{48, 0, 48, 48, 1, 0, 0, 47, 2, 48, 30} {
		is(t, a.install(t, metas()[i%len(metas())], most(n), i, min(i, 1)), api.OK)
		a.lasts(t)
		for range i % 4 {
			is(t, a.commit(t, a.told.next(put(longest(0), "x"))), api.OK)
			a.lasts(t)
		}
		if i%3 == 0 {
			a = a.again(t)
		}
	}
}

// What Install brings is all that there is: no path of before, no mount, no secret.
func TestP173Blow(t *testing.T) {
	a := fresh(t)
	story(t, a)
	is(t, a.install(t, vault.Meta{Role: 2}, []api.Pair{{Path: "new/a", Value: "1"}}, 0, 0), api.OK)
	if m := a.v.Meta(); m.Role != 2 || m.Seen != 0 || m.Grant != 0 || len(m.Mounts) != 0 || m.Secret != "" {
		t.Errorf("Meta: %v", m)
	}
	if !sameMap(a.v.Map(), []api.Pair{{Path: "new/a", Value: "1"}}) {
		t.Errorf("Map: %v", a.v.Map().All())
	}
	is(t, a.commit(t, batchAt(1, 1, put("new/a", "2"))), api.OK)
	rowsAre(t, a, 1, 1, 0)
	a.lasts(t)
}

// Rotate, with Commit, Set and Install between, and Open behind them.
func TestP173Rotate(t *testing.T) {
	a := fresh(t)
	for i := range 200 {
		is(t, a.rotate(t), api.OK)
		if a.v.Key() != i+1 {
			t.Fatalf("Key: %d, not %d", a.v.Key(), i+1)
		}
		switch i % 9 {
		case 0, 4, 5:
			a.commits(t, 1+i%3)
		case 2:
			is(t, a.set(t, metas()[i%len(metas())]), api.OK)
		case 6:
			if i%4 == 0 {
				is(t, a.install(t, metas()[i%len(metas())], most(i%19), i, 1), api.OK)
			}
		case 8:
			a = a.again(t)
		}
		a.lasts(t)
	}
}

// rotateTo rotates up to a key, and asks each answer, but not all that the vault tells.
func rotateTo(t *testing.T, a *asked, key int) {
	t.Helper()
	for a.told.key < key {
		if e := a.v.Rotate(); e != api.OK {
			t.Fatalf("Rotate behind the key %d is answered %d", a.told.key, e)
		}
		a.told.key++
		if a.v.Key() != a.told.key {
			t.Fatalf("Key: %d, not %d", a.v.Key(), a.told.key)
		}
	}
	a.tells(t)
}

// Rotate up to MaxRing and once more: there is no key behind that, but all else goes on.
func TestP173MaxRing(t *testing.T) {
	if testing.Short() {
		t.Skip("very many keys")
	}
	t.Parallel()
	a := fresh(t)
	for i, key := range []int{1, 127, 128, 1 << 14, 1<<14 + 1, 300000, 1<<20 - 1, 1 << 20} {
		rotateTo(t, a, key)
		a.commits(t, 1)
		is(t, a.set(t, metas()[i%len(metas())]), api.OK)
		a.lasts(t)
		if i%2 == 0 {
			is(t, a.install(t, greatest(), most(18), i+1, 1), api.OK)
			a.lasts(t)
		}
		if i < 5 {
			a = a.again(t)
		}
	}
	// What is sealed under the last key, and a batch and a map of elder ones.
	for range 3 {
		was := texts(a.disk)
		is(t, a.rotate(t), api.ErrFull)
		if !slices.Equal(texts(a.disk), was) || a.disk.Waits() > 0 {
			t.Fatal("what was refused changed the disk")
		}
		a.commits(t, 20)
		is(t, a.set(t, greatest()), api.OK)
		a.lasts(t)
		is(t, a.install(t, metas()[1], most(18), 9, 9), api.OK)
		is(t, a.rotate(t), api.ErrFull)
		a = a.again(t)
	}
	// ErrDown goes ahead of ErrFull.
	off(t, a.disk)
	a.told.down = true
	is(t, a.rotate(t), api.ErrDown)
}
