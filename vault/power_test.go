package vault_test

import (
	"math/rand"
	"reflect"
	"slices"
	"testing"

	"twinlock/api"
	"twinlock/disk"
	"twinlock/vault"
)

// bit is 1 for true.
func bit(is bool) int {
	if is {
		return 1
	}
	return 0
}

// keepings are ways in which a crash keeps n sectors' writes, of which one waits for each: all of them, or, of very many, all, none, all but one, one alone, beginnings, and some others.
func keepings(n int) (l [][]int) {
	if n <= 6 {
		for k := range 1 << n {
			keep := make([]int, n)
			for i := range keep {
				keep[i] = k >> i & 1
			}
			l = append(l, keep)
		}
		return l
	}
	r := rand.New(rand.NewSource(int64(n)))
	for i := range n + 1 {
		but, alone, first, any := make([]int, n), make([]int, n), make([]int, n), make([]int, n)
		for k := range n {
			but[k], alone[k], first[k], any[k] = bit(k != i), bit(k == i), bit(k < i), r.Intn(2)
		}
		l = append(l, but)
		if i%4 == 0 || i == n {
			l = append(l, alone, first, any)
		}
	}
	return l
}

// call is what a vault is asked, and what the reckoning does then.
type call struct {
	name string
	do   func(v *vault.Vault) api.Errno
	told func(m *model) api.Errno
}

func committing(b api.Batch) call {
	return call{"Commit", func(v *vault.Vault) api.Errno { return v.Commit(b) }, func(m *model) api.Errno { return m.commit(b) }}
}

func setting(x vault.Meta) call {
	return call{"Set", func(v *vault.Vault) api.Errno { return v.Set(x) }, func(m *model) api.Errno { return m.set(x) }}
}

func installing(x vault.Meta, l []api.Pair, at, epoch int) call {
	return call{"Install", func(v *vault.Vault) api.Errno { return v.Install(x, l, at, epoch) }, func(m *model) api.Errno { return m.install(x, l, at, epoch) }}
}

func rotating() call {
	return call{"Rotate", (*vault.Vault).Rotate, (*model).rotate}
}

// calls are some of each kind that a vault does, and one of which each writes much.
func calls(m *model) []call {
	return []call{
		committing(m.next(put("app/new", "1"))),
		committing(m.next()),
		committing(m.next(put(longest(0), some(32, 1)), del(longest(1)), put(longest(0), some(32, 2)), put(longest(1), some(32, 3)))),
		setting(vault.Meta{Role: 1, Seen: 7, Grant: 7, Mounts: mounts("app!", "ops"), Secret: "seed"}),
		setting(greatest()),
		installing(vault.Meta{Role: 2}, nil, 0, 0),
		installing(metas()[1], most(3), 100, 9),
		installing(greatest(), most(48), maxIndex-5, 1),
		rotating(),
	}
}

// mayBe are what there may be behind a call in which the power went: all of it or nothing, or, of a Commit that would forget MaxRows batches, that alone.
func mayBe(m *model, c call) []*model {
	done := m.twin()
	c.told(done)
	l := []*model{m, done}
	if c.name == "Commit" && len(m.rows) == maxRows {
		l = append(l, m.forgotten())
	}
	return l
}

// found opens a disk behind a crash, and tells which of some models is there.
func found(t *testing.T, d *disk.Disk, master string, l []*model) (*asked, int) {
	t.Helper()
	v, e := vault.Open(d, master)
	if e != api.OK {
		t.Fatalf("Open is answered %d", e)
	}
	got := seen(v)
	for i, m := range l {
		if told := m.opened(); reflect.DeepEqual(got, told.stand()) {
			return &asked{d, master, v, told}, i
		}
	}
	t.Fatalf("there is\n%+v\nnot what there was\n%+v\nnor what was to be\n%+v", got, l[0].stand(), l[1].stand())
	return nil, 0
}

// dead asks a vault that is down each call: ErrDown, also for what it would refuse for another reason.
func (a *asked) dead(t *testing.T) {
	t.Helper()
	a.told.down = true
	is(t, a.commit(t, a.told.next()), api.ErrDown)
	is(t, a.commit(t, batchAt(0, 0, put("", ""))), api.ErrDown)
	is(t, a.set(t, vault.Meta{}), api.ErrDown)
	is(t, a.set(t, vault.Meta{Role: -1}), api.ErrDown)
	is(t, a.install(t, vault.Meta{}, nil, 0, 0), api.ErrDown)
	is(t, a.install(t, vault.Meta{Role: 4}, most(49), -1, 0), api.ErrDown)
	is(t, a.rotate(t), api.ErrDown)
}

// torn lets the power go in a call at each of its acts, and asks f of the disk each time, of how many acts were done, and what there may be; in the end the call is done. Which acts are asked is told by some.
func torn(t *testing.T, a *asked, c call, some func(acts int) bool, f func(d *disk.Disk, l []*model)) {
	t.Helper()
	for acts := 0; ; acts++ {
		b := a.fork(t)
		l := mayBe(b.told, c)
		b.disk.Fuse(acts)
		e := c.do(b.v)
		if e == api.OK {
			if acts == 0 {
				t.Fatalf("%s does no act", c.name)
			}
			is(t, c.told(b.told), api.OK)
			b.tells(t)
			b.disk.Fuse(-1)
			for _, keep := range [][]int{nil, {1}, {1, 1, 1, 1, 1, 1}} {
				x := b.disk.Twin()
				x.Crash(keep)
				found(t, x, b.master, l[1:2:2])
			}
			return
		}
		if e != api.ErrDown || !b.disk.Down() {
			t.Fatalf("%s is answered %d behind %d acts", c.name, e, acts)
		}
		b.tells(t)
		if !some(acts) {
			continue
		}
		x := b.disk.Twin()
		// It is down though nobody asks it while the power is off.
		if acts%3 == 1 {
			b.dead(t)
		}
		b.disk.Crash(nil)
		b.dead(t)
		f(x, l)
	}
}

// each are all acts; about are the first ones, and few of the others.
func each(acts int) bool  { return true }
func about(acts int) bool { return acts < 20 || acts%13 == 0 || acts > 105 }

// goesOn asks a vault that was opened behind a crash for more: what it does lasts.
func (a *asked) goesOn(t *testing.T) {
	t.Helper()
	is(t, a.commit(t, a.told.next(del("app/new"))), api.OK)
	a.lasts(t)
	is(t, a.set(t, metas()[2]), api.OK)
	is(t, a.rotate(t), api.OK)
	is(t, a.commit(t, a.told.next(del("app/k1"))), api.OK)
	a.lasts(t)
}

// grown are vaults of some kinds: new ones, with some batches, with all that there may be, installed, and with a map of the greatest size.
func grown(t *testing.T) []*asked {
	t.Helper()
	l := []*asked{fresh(t), fresh(t).commits(t, 2), fresh(t).commits(t, 24)}
	a := fresh(t)
	story(t, a)
	l = append(l, a)
	b := fresh(t)
	is(t, b.install(t, greatest(), most(47), 7, 2), api.OK)
	for range maxRows {
		is(t, b.commit(t, b.told.next(put(longest(3), "x"))), api.OK)
	}
	return append(l, b)
}

// Wherever the power goes in a call, whatever a crash keeps: all of it is there then, or nothing, and all that was done ahead; and it goes on from there.
func TestP175Torn(t *testing.T) {
	t.Parallel()
	for i, a := range grown(t) {
		for _, c := range calls(a.told) {
			acts := about
			if i == 3 {
				acts = each
			}
			both := [2]int{}
			torn(t, a, c, acts, func(d *disk.Disk, l []*model) {
				n := d.Waits()
				for k, keep := range keepings(n) {
					x := d.Twin()
					x.Crash(keep)
					b, which := found(t, x, a.master, l)
					both[min(which, 1)]++
					if k%9 == 0 || n < 5 {
						b.goesOn(t)
					}
				}
			})
			if may := mayBe(a.told, c); !reflect.DeepEqual(may[0].stand(), may[1].stand()) && (both[0] == 0 || both[1] == 0) {
				t.Errorf("%s: nothing of it was there %d times, all or more %d times", c.name, both[0], both[1])
			}
		}
	}
}

// A Commit that forgets MaxRows batches: behind a crash all of them are there, or none; or the batch is.
func TestP175Forgets(t *testing.T) {
	t.Parallel()
	a := fresh(t).commits(t, maxRows)
	for _, c := range calls(a.told)[:3] {
		which := [3]int{}
		torn(t, a, c, each, func(d *disk.Disk, l []*model) {
			for _, keep := range keepings(d.Waits()) {
				x := d.Twin()
				x.Crash(keep)
				b, i := found(t, x, a.master, l)
				which[i]++
				rows, prev := b.v.Batches()
				want := [][3]int{{maxRows, 1, 0}, {1, maxRows + 1, 1}, {0, 0, 1}}[i]
				if len(rows) != want[0] || len(rows) > 0 && rows[0].Index != want[1] || prev != want[2] {
					t.Fatalf("Batches: %v, %d", rows, prev)
				}
				b.commits(t, 30).lasts(t)
			}
		})
		if which[0] == 0 || which[1] == 0 {
			t.Errorf("%v", which)
		}
	}
}

// shaken opens a disk behind a crash, while the power goes in Open again and again; what there is then is always the same. Boots of Opens that were broken off count, if at all, where all was kept.
func shaken(t *testing.T, d *disk.Disk, master string, l []*model, r *rand.Rand) *asked {
	t.Helper()
	twin := d.Twin()
	_, which := found(t, twin, master, l)
	m := l[which].opened()
	for range 1 + r.Intn(5) {
		d.Fuse(r.Intn(2))
		if v, e := vault.Open(d, master); e != api.ErrDown || v != nil {
			t.Fatalf("Open is answered %p, %d", v, e)
		}
		n := d.Waits()
		keep := make([]int, n)
		all := n > 0
		for i := range keep {
			keep[i] = r.Intn(2)
			all = all && keep[i] == 1
		}
		d.Crash(keep)
		v, e := vault.Open(d.Twin(), master)
		is(t, e, api.OK)
		if all && v.Boot() == m.boot+1 {
			m.boot++
		}
		if got := seen(v); !reflect.DeepEqual(got, m.stand()) {
			t.Fatalf("there is\n%+v\nnot\n%+v", got, m.stand())
		}
	}
	return openOn(t, d, master, m)
}

// The power goes in a call, then in Open, again and again, then in another call, and so on.
func TestP175Again(t *testing.T) {
	t.Parallel()
	for i, first := range grown(t) {
		r := rand.New(rand.NewSource(int64(i)))
		for range 60 {
			a := first.fork(t)
			for range 8 {
				l := calls(a.told)
				c := l[r.Intn(len(l))]
				a.disk.Fuse(r.Intn(10) * (1 + r.Intn(2)*11))
				may := mayBe(a.told, c)
				e := c.do(a.v)
				a.disk.Fuse(-1)
				if e == api.OK {
					is(t, c.told(a.told), api.OK)
					a.tells(t)
					continue
				}
				if may[1].at == a.told.at && c.name == "Commit" {
					// It was refused, for its map is full.
					is(t, e, c.told(a.told))
					continue
				}
				is(t, e, api.ErrDown)
				keep := make([]int, a.disk.Waits())
				for i := range keep {
					keep[i] = r.Intn(2)
				}
				a.disk.Crash(keep)
				a = shaken(t, a.disk, a.master, may, r)
			}
		}
	}
}

// Broken calls of one kind, one behind the other, of which each leaves what it wrote: never is anything of one taken for the other's.
func TestP175Leavings(t *testing.T) {
	t.Parallel()
	for _, c := range []func(i int, m *model) call{
		func(i int, m *model) call { return installing(metas()[i%3], most(10+i), 50+i, 1) },
		func(i int, m *model) call { return committing(m.next(put("app/x", some(i, i)))) },
		func(i int, m *model) call { return setting(metas()[i%len(metas())]) },
		func(i int, m *model) call { return rotating() },
	} {
		for _, first := range grown(t)[1:] {
			if first.told.pairs["app/k1"] == "" {
				continue
			}
			for acts := range 45 {
				a := first.fork(t)
				for i := range 4 {
					do := c(i, a.told)
					may := mayBe(a.told, do)
					a.disk.Fuse(max(0, acts-3*i))
					e := do.do(a.v)
					a.disk.Fuse(-1)
					if e == api.OK {
						is(t, do.told(a.told), api.OK)
						a.tells(t)
						continue
					}
					is(t, e, api.ErrDown)
					// All that was written is kept.
					a.disk.Crash(slices.Repeat([]int{1}, sectors))
					a, _ = found(t, a.disk, a.master, may)
				}
				a.lasts(t)
				is(t, a.install(t, metas()[1], most(20), 9, 9), api.OK)
				a.lasts(t)
			}
		}
	}
}

// The power goes beside the vault, in nobody's call: a call that finds it off is ErrDown, and so is the vault from then on, though the power is on again.
func TestP175Off(t *testing.T) {
	t.Parallel()
	for _, a := range grown(t) {
		for _, c := range append(calls(a.told), committing(batchAt(0, 0)), setting(vault.Meta{Role: 9}), installing(vault.Meta{}, most(49), 1, 1)) {
			b := a.fork(t)
			off(t, b.disk)
			is(t, c.do(b.v), api.ErrDown)
			b.tells(t)
			b.disk.Crash(nil)
			b.dead(t)
			b.disk.Fuse(0)
			b.dead(t)
			b.disk.Fuse(-1)
			b = b.again(t)
			b.goesOn(t)
		}
	}
}

// What answered OK is there, though the power goes at the very next act.
func TestP175Next(t *testing.T) {
	t.Parallel()
	for _, a := range grown(t) {
		for _, c := range calls(a.told) {
			b := a.fork(t)
			is(t, c.do(b.v), api.OK)
			is(t, c.told(b.told), api.OK)
			if b.disk.Waits() > 0 {
				t.Errorf("behind %s %d writes wait", c.name, b.disk.Waits())
			}
			b.disk.Fuse(0)
			b.dead(t)
			b.disk.Crash(slices.Repeat([]int{1, 0}, 50))
			b.again(t).goesOn(t)
		}
	}
}

// turned is a vault that went on to other maps some times, so that all its sectors have something.
func turned(t *testing.T, times int) *asked {
	t.Helper()
	a := fresh(t)
	for i := range times {
		is(t, a.install(t, greatest(), most(48), maxIndex-300+i, 1), api.OK)
	}
	for i := range 2 * maxRows {
		b := widest(a.told.at + 1)
		b.Epoch = 1 + i/20
		is(t, a.commit(t, b), api.OK)
	}
	return a
}

// Sectors are spoilt while the vault is open, one or many, and then the power goes in a call: what is opened then is refused, or tells what it must.
func TestP175Spoilt(t *testing.T) {
	t.Parallel()
	a := turned(t, 3)
	r := rand.New(rand.NewSource(8))
	refused, told := 0, 0
	l := written(a.disk)
	for range 800 {
		b := a.fork(t)
		n := 1 + r.Intn(3)
		if r.Intn(4) == 0 {
			n = len(l)
		}
		from := r.Intn(len(l))
		for k := range n {
			is(t, b.disk.Spoil(l[(from+k*(1+k%3*100))%len(l)], r.Intn(60), "\x01\x02\x03\x80"), api.OK)
		}
		c := []call{committing(a.told.next()), installing(metas()[1], most(3), 100, 9), setting(metas()[1])}[r.Intn(3)]
		may := mayBe(b.told, c)
		b.disk.Fuse(r.Intn(13) * (1 + 20*r.Intn(2)))
		e := c.do(b.v)
		if e == api.OK {
			is(t, c.told(b.told), api.OK)
			may = []*model{b.told, b.told}
		} else {
			is(t, e, api.ErrDown)
		}
		b.tells(t)
		keep := make([]int, b.disk.Waits())
		for k := range keep {
			keep[k] = r.Intn(3)
		}
		b.disk.Crash(keep)
		v, e := vault.Open(b.disk.Twin(), b.master)
		if e != api.OK {
			is(t, e, api.ErrSum)
			refused++
			continue
		}
		if v == nil {
			t.Fatal("no vault")
		}
		x, _ := found(t, b.disk, b.master, may)
		x.goesOn(t)
		told++
	}
	if refused == 0 || told == 0 {
		t.Errorf("%d were refused, %d not", refused, told)
	}
}

// Two neighbours are spoilt, of which the one may count and the other one not, and the power goes in an Install: nobody makes up for what is gone.
func TestP175Neighbours(t *testing.T) {
	t.Parallel()
	for times := 2; times < 4; times++ {
		a := turned(t, times)
		c := installing(metas()[1], most(3), 100, 9)
		l := written(a.disk)
		for k := range len(l) - 1 {
			for _, acts := range []int{3, 40} {
				b := a.fork(t)
				for _, i := range l[k : k+2] {
					is(t, b.disk.Spoil(i, k%61, "\x10"), api.OK)
				}
				may := mayBe(b.told, c)
				b.disk.Fuse(acts)
				if e := c.do(b.v); e != api.OK {
					is(t, e, api.ErrDown)
				}
				b.disk.Crash([]int{1, 1, 1, 1, 1, 1, 1, 1})
				if _, e := vault.Open(b.disk.Twin(), b.master); e != api.ErrSum {
					found(t, b.disk, b.master, may)
				}
			}
		}
	}
}
