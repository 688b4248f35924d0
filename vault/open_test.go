package vault_test

import (
	"math"
	"slices"
	"strings"
	"testing"

	"twinlock/api"
	"twinlock/disk"
	"twinlock/kept"
	"twinlock/log"
	"twinlock/vault"
)

func TestP17Examples(t *testing.T) {
	d := newDisk(t, vault.Sectors)
	v, e := vault.Open(d, "k")
	is(t, e, api.OK)
	if at, epoch := v.Place(); at != 0 || epoch != 0 || v.Boot() != 1 {
		t.Errorf("Place: %d %d, Boot: %d", at, epoch, v.Boot())
	}
	is(t, v.Commit(batchAt(1, 1, put("app/a", "1"))), api.OK)
	is(t, v.Commit(batchAt(3, 1)), api.ErrArg)
	is(t, v.Commit(batchAt(2, 1)), api.OK)
	if at, epoch := v.Place(); at != 2 || epoch != 1 {
		t.Errorf("Place: %d %d", at, epoch)
	}

	v, e = vault.Open(d, "k")
	is(t, e, api.OK)
	if at, epoch := v.Place(); at != 2 || epoch != 1 || v.Boot() != 2 {
		t.Errorf("Place: %d %d, Boot: %d", at, epoch, v.Boot())
	}
	if !sameMap(v.Map(), []api.Pair{{Path: "app/a", Value: "1"}}) {
		t.Errorf("Map: %v", v.Map().All())
	}
	if l, prev := v.Batches(); len(l) != 2 || l[0].Index != 1 || len(l[0].Ops) != 1 || l[1].Index != 2 || len(l[1].Ops) != 0 || prev != 0 {
		t.Errorf("Batches: %v, %d", l, prev)
	}

	is(t, v.Install(vault.Meta{Role: 2}, nil, 0, 0), api.OK)
	at, epoch := v.Place()
	l, prev := v.Batches()
	if at != 0 || epoch != 0 || v.Map().Len() != 0 || len(l) != 0 || prev != 0 {
		t.Errorf("Place: %d %d, Map: %v, Batches: %v, %d", at, epoch, v.Map().All(), l, prev)
	}
	v, e = vault.Open(d, "k")
	is(t, e, api.OK)
	if v.Meta().Role != 2 {
		t.Errorf("Meta: %v", v.Meta())
	}

	w, e := vault.Open(newDisk(t, 499), "k")
	if w != nil {
		t.Error("a vault of 499 sectors")
	}
	is(t, e, api.ErrArg)
	_, e = vault.Open(nil, "k")
	is(t, e, api.ErrNil)
	for _, i := range written(d) {
		is(t, d.Spoil(i, 0, "x"), api.OK)
		_, e = vault.Open(d, "k")
		is(t, e, api.ErrSum)
		is(t, d.Spoil(i, 0, "x"), api.OK)
	}
}

func TestP171Numbers(t *testing.T) {
	if vault.Sectors != sectors || vault.MaxRows != maxRows {
		t.Errorf("%d, %d", vault.Sectors, vault.MaxRows)
	}
}

// refuses asks Open, which must answer an error, and change nothing on the disk.
func refuses(t *testing.T, d *disk.Disk, master string, want api.Errno) {
	t.Helper()
	was, waits, down := texts(d), d.Waits(), d.Down()
	v, e := vault.Open(d, master)
	if e != want || v != nil {
		t.Fatalf("Open is answered %p, %d, not %d", v, e, want)
	}
	if !slices.Equal(texts(d), was) || d.Waits() != waits || d.Down() != down {
		t.Fatal("the disk was changed")
	}
}

// off lets a disk's power go.
func off(t *testing.T, d *disk.Disk) {
	t.Helper()
	d.Fuse(0)
	if d.Sync() != api.ErrDown || !d.Down() {
		t.Fatal("the power doesn't go")
	}
}

// No disk, disks that are too small, disks whose power is off, spoilt ones: each error, and their row.
func TestP171Errors(t *testing.T) {
	if v, e := vault.Open(nil, "k"); e != api.ErrNil || v != nil {
		t.Errorf("Open of none is answered %p, %d", v, e)
	}
	// One that New did not make has no sectors.
	if v, e := vault.Open(&disk.Disk{}, "k"); e != api.ErrArg || v != nil {
		t.Errorf("Open of a disk without sectors is answered %p, %d", v, e)
	}
	for _, n := range []int{1, 2, 19, 20, 40, 284, 300, 498, 499} {
		d := newDisk(t, n)
		refuses(t, d, "k", api.ErrArg)
		is(t, d.Spoil(n-1, 0, "x"), api.OK)
		refuses(t, d, "k", api.ErrArg)
		off(t, d)
		refuses(t, d, "k", api.ErrDown)
	}
	for _, n := range []int{500, 501, 600, 4096} {
		d := newDisk(t, n)
		off(t, d)
		refuses(t, d, "k", api.ErrDown)
		is(t, d.Spoil(499, 60, "x"), api.OK)
		refuses(t, d, "k", api.ErrDown)
	}
	a := fresh(t).commits(t, 3)
	is(t, a.disk.Spoil(written(a.disk)[0], 7, "x"), api.OK)
	refuses(t, a.disk, a.master, api.ErrSum)
	refuses(t, a.disk, "another", api.ErrSum)
	// A fuse that is at its end does no harm, where no act is done.
	a.disk.Fuse(0)
	refuses(t, a.disk, a.master, api.ErrSum)
	off(t, a.disk)
	refuses(t, a.disk, a.master, api.ErrDown)
}

// story does something of each kind to a vault.
func story(t *testing.T, a *asked) {
	t.Helper()
	is(t, a.set(t, metas()[1]), api.OK)
	a.commits(t, 3)
	is(t, a.rotate(t), api.OK)
	is(t, a.install(t, metas()[2], most(7), 10, 4), api.OK)
	is(t, a.commit(t, batchAt(11, 4, put("app/a", "1"), del(longest(2)))), api.OK)
	is(t, a.set(t, greatest()), api.OK)
	a.commits(t, 30)
}

// Of disks of 500 sectors and more only the first 500 are a vault's.
func TestP171Sectors(t *testing.T) {
	for _, n := range []int{500, 501, 502, 600, 4096} {
		d := newDisk(t, n)
		for i := sectors; i < n; i++ {
			is(t, d.Write(i, some(size, i)), api.OK)
		}
		is(t, d.Sync(), api.OK)
		a := openOn(t, d, "k", &model{boot: 1, pairs: map[string]string{}})
		story(t, a)
		a = a.again(t)
		story(t, &asked{a.disk, a.master, a.v, a.told})
		a.lasts(t)
		for i, s := range texts(d)[sectors:] {
			if s != some(size, sectors+i) {
				t.Fatalf("the sector %d was written", sectors+i)
			}
		}
	}
}

// A new vault has nothing; its boot is 1, whatever the master is.
func TestP171New(t *testing.T) {
	for _, master := range []string{"", "k", "master", some(64, 1), some(65, 2), strings.Repeat("\x00", 100), strings.Repeat("m", 70000)} {
		d := newDisk(t, sectors)
		a := openOn(t, d, master, &model{boot: 1, pairs: map[string]string{}})
		a.again(t).commits(t, 2).again(t)
	}
}

// A vault that is opened again and again, with and without anything between, has all that was done, and one more boot each time.
func TestP171Boot(t *testing.T) {
	a := fresh(t)
	for i := range 40 {
		a = a.again(t)
		if a.v.Boot() != i+2 {
			t.Fatalf("Boot: %d, not %d", a.v.Boot(), i+2)
		}
		switch i % 8 {
		case 1:
			a.commits(t, i%5)
		case 3:
			is(t, a.set(t, metas()[i%len(metas())]), api.OK)
		case 5:
			is(t, a.rotate(t), api.OK)
		case 7:
			is(t, a.install(t, metas()[i%len(metas())], most(i%9), i, 2), api.OK)
		}
	}
	for i := range 400 {
		a = a.again(t)
		if a.v.Boot() != i+42 {
			t.Fatalf("Boot: %d, not %d", a.v.Boot(), i+42)
		}
	}
}

// Who opens a disk to look at what is there does no harm to a vault that was opened ahead; each of them has a boot of its own.
func TestP171Lookers(t *testing.T) {
	a := fresh(t)
	boot := 1
	look := func() {
		t.Helper()
		for range 3 {
			boot++
			told := a.told.twin()
			told.boot = boot
			openOn(t, a.disk, a.master, told)
		}
		a.tells(t)
	}
	for i := range 12 {
		a.commits(t, 1+i*3)
		look()
		is(t, a.set(t, metas()[i%len(metas())]), api.OK)
		look()
		is(t, a.set(t, metas()[(i+1)%len(metas())]), api.OK)
		is(t, a.rotate(t), api.OK)
		look()
		is(t, a.install(t, metas()[i%len(metas())], most(i), i+1, 1), api.OK)
		look()
	}
}

// opens lets the power go at each act of Open, and crash keep what it may; then the vault that is opened tells what it told, and no boot more, unless all that waited was kept.
func opens(t *testing.T, d *disk.Disk, master string, told *model) {
	t.Helper()
	for acts := 0; ; acts++ {
		x := d.Twin()
		x.Fuse(acts)
		v, e := vault.Open(x, master)
		if e == api.OK {
			if acts == 0 {
				t.Fatal("Open does no act")
			}
			openOn(t, d.Twin(), master, told)
			(&asked{x, master, v, told}).tells(t)
			return
		}
		if e != api.ErrDown || v != nil || !x.Down() {
			t.Fatalf("Open is answered %p, %d", v, e)
		}
		n := x.Waits()
		for _, keep := range keepings(n) {
			y := x.Twin()
			y.Crash(keep)
			want := told.twin()
			if n > 0 && !slices.Contains(keep, 0) {
				if v, e := vault.Open(y.Twin(), master); e == api.OK && v.Boot() == told.boot+1 {
					want.boot++
				}
			}
			a := openOn(t, y, master, want)
			a.commits(t, 2).lasts(t)
		}
	}
}

// The power goes in Open, of a blank disk and of one on which something was done.
func TestP171Fuse(t *testing.T) {
	opens(t, newDisk(t, sectors), "k", &model{boot: 1, pairs: map[string]string{}})
	a := fresh(t)
	opens(t, a.disk, a.master, a.told.opened())
	story(t, a)
	opens(t, a.disk, a.master, a.told.opened())
	a = a.again(t).again(t)
	opens(t, a.disk, a.master, a.told.opened())
}

// foreign asks Open of a disk that others wrote to: some error, or some vault, of which all calls end.
func foreign(t *testing.T, d *disk.Disk, master string) api.Errno {
	t.Helper()
	v, e := vault.Open(d, master)
	if (e == api.OK) != (v != nil) {
		t.Fatalf("Open is answered %p, %d", v, e)
	}
	if v == nil {
		return e
	}
	if seen(v); v.Map() == nil {
		t.Fatal("a vault without a map")
	}
	at, epoch := v.Place()
	for range maxRows + 2 {
		v.Commit(batchAt(at+1, max(epoch, 1), put("app/a", "1")))
		at, _ = v.Place()
	}
	v.Set(greatest())
	v.Rotate()
	v.Install(greatest(), most(48), 5, 5)
	seen(v)
	return e
}

// Another master's vault is some error, or some vault; and it does no harm to the one that was there.
func TestP171Master(t *testing.T) {
	for n := range 5 {
		a := fresh(t)
		switch n {
		case 1:
			a.commits(t, 5)
		case 2:
			is(t, a.set(t, greatest()), api.OK)
		case 3:
			is(t, a.install(t, greatest(), most(48), 9, 9), api.OK)
		case 4:
			story(t, a)
		}
		for _, master := range []string{"", "maste", "master\x01", "Master", "master ", strings.Repeat("master", 20)} {
			d := a.disk.Twin()
			if foreign(t, d, master) != api.OK {
				if !slices.Equal(texts(d), texts(a.disk)) {
					t.Fatal("the disk was changed")
				}
				openOn(t, d, a.master, a.told.opened())
			}
		}
	}
}

// Disks that others wrote to: records and logs of other makes, sound sectors with anything in them.
func TestP171Others(t *testing.T) {
	for seed := range 40 {
		d := newDisk(t, sectors)
		for i := range sectors {
			if (i+seed)%3 == 0 {
				s, e := disk.Close(some(60, seed*1000+i))
				is(t, e, api.OK)
				is(t, d.Write(i, s), api.OK)
			}
		}
		is(t, d.Sync(), api.OK)
		foreign(t, d, "k")
	}
	for _, text := range []string{"", "a", "\x00", "\x00\x00", "\xac\x02\x01", "\x01a\x01b", some(400, 1), strings.Repeat("\x00", 400), strings.Repeat("\xff", 400), strings.Repeat("\x01", 400)} {
		d := newDisk(t, sectors)
		for from := range 25 {
			k, e := kept.Open(d, from*20)
			is(t, e, api.OK)
			is(t, k.Put(text), api.OK)
		}
		foreign(t, d, "k")
		// So it is, when a vault is there, and another record stands over each of its sectors.
		a := fresh(t)
		story(t, a)
		for from := range sectors - 19 {
			d = a.disk.Twin()
			k, e := kept.Open(d, from)
			is(t, e, api.OK)
			if from%7 == 0 || from < 25 {
				is(t, k.Put(text), api.OK)
				is(t, k.Put(text), api.OK)
				foreign(t, d, a.master)
			}
		}
	}
	for epoch := range uint64(4) {
		for _, from := range []int{0, 20, 21, 284, 285, 392} {
			d := newDisk(t, sectors)
			l, e := log.Open(d, from, sectors-from, epoch+1)
			is(t, e, api.OK)
			for i := range 4 {
				is(t, l.Add(some(i*100, i)), api.OK)
			}
			foreign(t, d, "k")
		}
	}
}

// Roles, numbers, mounts and secrets that are right, and such as are not.
func TestP171Right(t *testing.T) {
	for _, m := range metas() {
		if !vault.Right(m) {
			t.Errorf("Right(%v)", m)
		}
	}
	for _, n := range []int{math.MinInt, -1 << 32, -2, -1, 0, 1, 2, 3, 4, 5, 256, 1 << 32, math.MaxInt} {
		m := greatest()
		if m.Role = n; vault.Right(m) != (n >= 0 && n <= 3) {
			t.Errorf("Right of the role %d: %v", n, vault.Right(m))
		}
		m = vault.Meta{Seen: n}
		if vault.Right(m) != (n >= 0) {
			t.Errorf("Right of Seen %d: %v", n, vault.Right(m))
		}
		m = vault.Meta{Grant: n}
		if vault.Right(m) != (n >= 0) {
			t.Errorf("Right of Grant %d: %v", n, vault.Right(m))
		}
	}
	for _, n := range []int{0, 1, 2, 32, 63, 64, 65, 66, 128, 100000} {
		if m := (vault.Meta{Secret: some(n, n)}); vault.Right(m) != (n <= 64) {
			t.Errorf("Right of a Secret of %d bytes: %v", n, vault.Right(m))
		}
	}
	for _, x := range []struct {
		l    []api.Mount
		want bool
	}{
		{nil, true},
		{[]api.Mount{}, true},
		{mounts("a"), true},
		{mounts("app!", "ops"), true},
		{mounts("a", "b", "c!", "d"), true},
		{mounts("a", "b", "c!", "d", "e"), false},
		{mounts("abcdefgh"), true},
		{mounts("abcdefghi"), false},
		{mounts("app", "app"), false},
		{mounts("app", "ops", "app!"), false},
		{mounts(""), false},
		{mounts("app", ""), false},
		{mounts("App"), false},
		{mounts("app/"), false},
		{mounts("app1"), false},
		{make([]api.Mount, 1), false},
		{make([]api.Mount, 100000), false},
	} {
		k := &ink{}
		m := k.meta(vault.Meta{Mounts: x.l, Secret: "s"})
		if vault.Right(m) != x.want || metaOf(m) != x.want {
			t.Errorf("Right of the mounts %v: %v", x.l, !x.want)
		}
		stays(t, m.Mounts, x.l, wildMount, wildMount)
	}
	// One thing that is wrong beside others that are right, and all wrong.
	for _, m := range []vault.Meta{{Role: 4, Seen: -1, Grant: -1, Mounts: mounts(""), Secret: some(65, 1)}, {Role: 1, Seen: 5, Grant: -5}, {Role: -1, Secret: "a"}, {Role: 1, Seen: 1, Grant: 1, Mounts: mounts("app!"), Secret: some(65, 2)}} {
		if vault.Right(m) || metaOf(m) {
			t.Errorf("Right(%v)", m)
		}
	}
	// Grant above Seen, and a Blank one that has heard of an epoch: that is another layer's affair.
	if !vault.Right(vault.Meta{Role: 0, Seen: 1, Grant: 9}) {
		t.Error("Right asks for more than the chapter does")
	}
}
