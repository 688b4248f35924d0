package disk_test

import (
	"math"
	"math/rand"
	"testing"
	"unsafe"

	"twinlock/api"
	"twinlock/disk"
)

// anySize are disks' sizes.
var anySize = []int{1, 2, 3, 20, 500, maxDisk - 1, maxDisk}

func TestP71New(t *testing.T) {
	for _, n := range anySize {
		a := start(t, n)
		for i := range n {
			if b, e := a.disk.Read(i); b != noughts || e != api.OK {
				t.Fatalf("sector %d of %d: %d, %x", i, n, e, b)
			}
		}
		a.holds(t)
	}
}

func TestP71Beyond(t *testing.T) {
	for _, n := range []int{0, -1, -2, -maxDisk, math.MinInt, maxDisk + 1, maxDisk + 2, 2 * maxDisk, 1 << 31, 1 << 32, 1<<32 + 1, math.MaxInt} {
		if d, e := disk.New(n); d != nil || e != api.ErrArg {
			t.Errorf("New of %d: %v, %d", n, d, e)
		}
	}
}

// A new disk has no fuse, of whatever length.
func TestP71NoFuse(t *testing.T) {
	a := start(t, 2)
	for range 5000 {
		a.writes(t, 1, sA)
		a.synced(t)
	}
}

// Sectors is the same, whatever was done; stands asks it behind each call.
func TestP71Sectors(t *testing.T) {
	for _, n := range anySize {
		a := start(t, n)
		a.writes(t, n-1, sA, sB)
		a.synced(t)
		a.blow(t)
		if a.disk.Sectors() != n {
			t.Errorf("%d sectors, with the power off", a.disk.Sectors())
		}
		a.crash(t)
	}
}

// Disks know nothing of one another.
func TestP71Apart(t *testing.T) {
	a, b := start(t, 3), start(t, 3)
	a.writes(t, 0, sA)
	a.writes(t, 2, sC)
	b.holds(t)
	a.synced(t)
	b.writes(t, 0, sB)
	a.holds(t)
	a.spoil(t, 1, 5, "x")
	a.blow(t)
	b.holds(t)
	b.synced(t)
	b.crash(t, 1, 1)
	a.holds(t)
	start(t, 3)
}

// Each sector of a disk is one of its own.
func TestP72Sectors(t *testing.T) {
	for _, n := range anySize {
		a := start(t, n)
		for i := range n {
			if e := a.disk.Write(i, some(size, int64(i))); e != api.OK || a.disk.Waits() != i+1 {
				t.Fatalf("Write to %d of %d: %d, %d wait", i, n, e, a.disk.Waits())
			}
		}
		for range 2 {
			for i := range n {
				if b, e := a.disk.Read(i); b != some(size, int64(i)) || e != api.OK {
					t.Fatalf("sector %d of %d: %d, %x", i, n, e, b)
				}
			}
			if e := a.disk.Sync(); e != api.OK || a.disk.Waits() != 0 {
				t.Fatalf("Sync: %d, %d wait", e, a.disk.Waits())
			}
		}
	}
}

// The first sector, the last one, and those beyond; what is refused changes nothing.
func TestP72Beyond(t *testing.T) {
	for _, n := range anySize {
		a := start(t, n)
		a.writes(t, 0, sA)
		a.writes(t, n-1, sB)
		for _, i := range append(beyond, n, n+1, n+64, -n, -n-1) {
			a.read(t, i)
			if b, e := a.disk.Read(i); b != "" || e != api.ErrArg {
				t.Errorf("Read of %d of %d: %d, %q", i, n, e, b)
			}
			a.refused(t, i, sC, api.ErrArg)
			a.refused(t, i, sC[1:], api.ErrArg)
		}
		a.holds(t)
		a.synced(t)
		a.holds(t)
	}
}

func TestP72Lengths(t *testing.T) {
	for _, n := range []int{1, 2, 20} {
		a := start(t, n)
		for _, length := range lengths {
			for i := range n {
				a.refused(t, i, some(length, 1), api.ErrArg)
			}
		}
		a.holds(t)
		for i := range n {
			a.writes(t, i, some(size, 2))
			for _, length := range lengths {
				a.refused(t, i, some(length, 3), api.ErrArg)
			}
			a.writes(t, i, some(size, 4))
		}
		a.holds(t)
	}
}

// Any bytes are some.
func TestP72Bytes(t *testing.T) {
	a := start(t, 4)
	for c := range 256 {
		for i := range 4 {
			a.writes(t, i, filled(byte(c)))
		}
		b := []byte(some(size, int64(c)))
		for at := range b {
			b[at] = byte(at + c)
		}
		a.writes(t, c%4, string(b))
		a.synced(t)
	}
}

// Several writes wait for one sector, others for others: Read tells the last one, Waits counts all, Sync makes the last one last.
func TestP72Waiting(t *testing.T) {
	a := start(t, 4)
	a.writes(t, 2, sA, sB, sC, sB)
	a.writes(t, 0, sC, sA)
	a.writes(t, 2, sA)
	a.writes(t, 3, noughts)
	if n := a.disk.Waits(); n != 8 {
		t.Errorf("%d wait", n)
	}
	a.holds(t)
	a.synced(t)
	if n := a.disk.Waits(); n != 0 {
		t.Errorf("%d wait behind a Sync", n)
	}
	for i, want := range []string{sA, noughts, sA, noughts} {
		if b, e := a.disk.Read(i); b != want || e != api.OK {
			t.Errorf("sector %d: %d, %x", i, e, b)
		}
	}
	a.holds(t)
	a.crash(t, 1, 1, 1, 1)
	a.holds(t)
}

// The same bytes, written again, wait again.
func TestP72Same(t *testing.T) {
	a := start(t, 2)
	for k := range 300 {
		a.writes(t, 1, sA)
		if n := a.disk.Waits(); n != k+1 {
			t.Fatalf("%d wait", n)
		}
	}
	a.twin(t).crash(t, 0)
	a.twin(t).crash(t, 300)
	a.twin(t).crash(t, 301)
	a.synced(t)
	a.writes(t, 1, sA)
}

// A Sync of nothing does nothing; one behind another is nothing new.
func TestP72Syncs(t *testing.T) {
	a := start(t, 3)
	for range 3 {
		a.synced(t)
		a.holds(t)
	}
	a.writes(t, 1, sA, sB)
	a.synced(t)
	a.synced(t)
	a.holds(t)
	a.writes(t, 1, sC)
	a.writes(t, 0, sA)
	a.holds(t)
	a.synced(t)
	a.holds(t)
}

// With the power off all that asks for it is answered ErrDown, ahead of wrong arguments, and does nothing.
func TestP72Off(t *testing.T) {
	a := start(t, 3)
	a.writes(t, 0, sA)
	a.synced(t)
	a.writes(t, 0, sB, sC)
	a.writes(t, 2, sB)
	a.blow(t)
	for range 3 {
		for _, i := range append(beyond, 0, 1, 2, 3) {
			if b, e := a.disk.Read(i); b != "" || e != api.ErrDown {
				t.Errorf("Read of %d: %d, %q", i, e, b)
			}
			a.refused(t, i, sA, api.ErrDown)
			a.refused(t, i, sA[1:], api.ErrDown)
		}
		if e := a.sync(t); e != api.ErrDown {
			t.Errorf("Sync: %d", e)
		}
	}
	if a.disk.Waits() != 3 || a.disk.Sectors() != 3 || !a.disk.Down() {
		t.Errorf("%d wait for %d sectors, Down is %v", a.disk.Waits(), a.disk.Sectors(), a.disk.Down())
	}
	a.holds(t)
}

// No fuse turns the power on.
func TestP72OffFuses(t *testing.T) {
	a := start(t, 2)
	a.writes(t, 0, sA)
	a.blow(t)
	for _, n := range []int{0, 1, 2, 100, math.MaxInt, -1, math.MinInt} {
		a.fuse(t, n)
		a.refused(t, 0, sB, api.ErrDown)
		if e := a.sync(t); e != api.ErrDown {
			t.Errorf("Sync: %d", e)
		}
		a.holds(t)
	}
	a.crash(t, 1)
	a.writes(t, 0, sC)
}

// The bytes that were handed in are not kept.
func TestP72NotKept(t *testing.T) {
	a := start(t, 2)
	b := []byte(some(size, 5))
	a.writes(t, 1, unsafe.String(&b[0], size))
	a.told.row[0].b = some(size, 5)
	clear(b)
	a.stands(t)
	a.synced(t)
	a.stands(t)
}

// By each fuse so many acts are done, writes and syncs in whatever order; the one behind them is not.
func TestP73Fuse(t *testing.T) {
	for seed := range int64(40) {
		for _, n := range []int{0, 1, 2, 3, 7, 30} {
			r := rand.New(rand.NewSource(seed))
			a := start(t, 3)
			a.writes(t, 0, sA)
			a.synced(t)
			a.writes(t, 1, sB)
			a.fuse(t, n)
			for k := range n + 3 {
				e := api.OK
				if r.Intn(3) > 0 {
					e = a.write(t, r.Intn(3), some(size, r.Int63()))
				} else {
					e = a.sync(t)
				}
				if done := k < n; done != (e == api.OK) || a.disk.Down() == done {
					t.Fatalf("act %d of a fuse of %d is answered %d", k, n, e)
				}
			}
			a.holds(t)
		}
	}
}

// At the fuse's end neither a write waits, nor a sync makes anything last.
func TestP73End(t *testing.T) {
	a := start(t, 2)
	a.writes(t, 0, sA)
	a.fuse(t, 0)
	if a.disk.Down() {
		t.Error("the power goes ahead of an act")
	}
	b := a.twin(t)
	a.refused(t, 0, sB, api.ErrDown)
	if a.disk.Waits() != 1 || !a.disk.Down() {
		t.Errorf("%d wait, Down is %v", a.disk.Waits(), a.disk.Down())
	}
	a.holds(t)
	a.crash(t, 2)
	if e := b.sync(t); e != api.ErrDown || b.disk.Waits() != 1 {
		t.Errorf("Sync: %d, %d wait", e, b.disk.Waits())
	}
	b.holds(t)
	b.crash(t, 0)
	for i := range 2 {
		if s, e := b.disk.Read(i); s != noughts || e != api.OK {
			t.Errorf("sector %d: %d, %x", i, e, s)
		}
	}
}

// Below 0 there is no fuse.
func TestP73NoFuse(t *testing.T) {
	for _, n := range []int{-1, -2, -100, math.MinInt} {
		a := start(t, 2)
		a.fuse(t, 1)
		a.fuse(t, n)
		for range 200 {
			a.writes(t, 1, sA)
			a.synced(t)
		}
	}
}

// The newest fuse is the one that counts.
func TestP73NewestFuse(t *testing.T) {
	for _, first := range []int{-1, 0, 1, 3, math.MaxInt} {
		for _, n := range []int{0, 1, 2} {
			a := start(t, 2)
			a.fuse(t, first)
			if first > 0 {
				a.synced(t)
			}
			a.fuse(t, n)
			for range n {
				a.writes(t, 0, sA)
			}
			a.refused(t, 0, sB, api.ErrDown)
		}
	}
}

// A long fuse lets much be done.
func TestP73Long(t *testing.T) {
	a := start(t, 2)
	for _, n := range []int{math.MaxInt, 1 << 32, 1 << 31} {
		a.fuse(t, n)
		for range 50 {
			a.writes(t, 0, sA)
			a.synced(t)
		}
	}
	a.fuse(t, 1000)
	for k := range 1001 {
		if e := a.sync(t); (e == api.OK) != (k < 1000) {
			t.Fatalf("act %d is answered %d", k, e)
		}
	}
}

// What is refused for its arguments is no act, and so is what neither writes nor syncs.
func TestP73NoActs(t *testing.T) {
	for _, n := range []int{0, 1, 2, 5} {
		a := start(t, 3)
		a.writes(t, 1, sA)
		a.fuse(t, n)
		for k := range n + 1 {
			for _, i := range append(beyond, 3) {
				a.refused(t, i, sB, api.ErrArg)
				a.spoil(t, i, 0, "x")
			}
			for _, length := range lengths {
				a.refused(t, 1, some(length, 6), api.ErrArg)
			}
			a.spoil(t, 1, 5, "x")
			a.spoil(t, 1, 64, "x")
			a.holds(t)
			want := api.OK
			if k == n {
				want = api.ErrDown
			}
			if e := a.write(t, k%3, sC); e != want {
				t.Fatalf("act %d of a fuse of %d is answered %d", k, n, e)
			}
		}
	}
}

// Spoil of some bytes, at each edge of the sector.
func TestP74Spoil(t *testing.T) {
	for _, n := range []int{1, 3} {
		a := start(t, n)
		for i := range n {
			a.writes(t, i, some(size, int64(i)))
		}
		a.synced(t)
		for length := range 9 {
			for at := -9; at < size+9; at++ {
				for i := range n {
					want := api.OK
					if length > maxSpoil || at < 0 || at+length > size {
						want = api.ErrArg
					}
					if e := a.spoil(t, i, at, some(length, int64(at))); e != want {
						t.Fatalf("Spoil from %d on, %d bytes, is answered %d", at, length, e)
					}
				}
			}
		}
		a.holds(t)
	}
}

// Places and sectors far beyond, and texts that are far too long.
func TestP74Beyond(t *testing.T) {
	for _, n := range anySize {
		a := start(t, n)
		for _, x := range []string{"", "x", "four", "fives", some(64, 7), some(1<<16, 8)} {
			for _, at := range []int{math.MinInt, math.MinInt + 4, -1 << 32, -64, 65, 128, 1 << 31, 1 << 32, math.MaxInt - 4, math.MaxInt - 3, math.MaxInt} {
				if e := a.spoil(t, 0, at, x); e != api.ErrArg {
					t.Errorf("Spoil from %d on, %d bytes, is answered %d", at, len(x), e)
				}
			}
			for _, i := range append(beyond, n, n+1) {
				if e := a.spoil(t, i, 0, x); e != api.ErrArg {
					t.Errorf("Spoil of %d of %d is answered %d", i, n, e)
				}
			}
			if len(x) <= maxSpoil {
				if e := a.spoil(t, n-1, size-len(x), x); e != api.OK {
					t.Errorf("Spoil of the last sector's end is answered %d", e)
				}
			}
		}
	}
}

// The same bytes, twice, are nothing; noughts are nothing.
func TestP74Twice(t *testing.T) {
	a := start(t, 2)
	a.writes(t, 1, sA)
	a.synced(t)
	for at := range size - 3 {
		a.spoil(t, 1, at, "\x00\x00\x00\x00")
		if b, _ := a.disk.Read(1); b != sA {
			t.Errorf("noughts from %d on: %x", at, b)
		}
		a.spoil(t, 1, at, "\x01\x80\xff\x55")
		if b, _ := a.disk.Read(1); b == sA {
			t.Errorf("from %d on: %x", at, b)
		}
		a.spoil(t, 1, at, "\x01\x80\xff\x55")
		if b, _ := a.disk.Read(1); b != sA {
			t.Errorf("twice, from %d on: %x", at, b)
		}
	}
}

// What waits is not spoilt; it stands over what is.
func TestP74Waiting(t *testing.T) {
	a := start(t, 2)
	a.writes(t, 0, sA)
	a.synced(t)
	a.writes(t, 0, sB, sC)
	a.spoil(t, 0, 3, "\x01\x02\x03\x04")
	if b, _ := a.disk.Read(0); b != sC {
		t.Errorf("what waits is %x", b)
	}
	a.holds(t)
	b := a.twin(t)
	b.crash(t, 0)
	if s, _ := b.disk.Read(0); s != "AAA"+"\x40\x43\x42\x45"+sA[7:] {
		t.Errorf("what lasts is %x", s)
	}
	b.spoil(t, 0, 3, "\x01\x02\x03\x04")
	if s, _ := b.disk.Read(0); s != sA {
		t.Errorf("what lasts is %x", s)
	}
	a.synced(t)
	if s, _ := a.disk.Read(0); s != sC {
		t.Errorf("what lasts is %x", s)
	}
	a.holds(t)
}

// The power may be off, and stays so.
func TestP74Off(t *testing.T) {
	a := start(t, 2)
	a.writes(t, 0, sA)
	a.synced(t)
	a.writes(t, 1, sB)
	a.blow(t)
	if e := a.spoil(t, 0, 60, "\x01\x01\x01\x01"); e != api.OK {
		t.Errorf("Spoil is answered %d", e)
	}
	for _, x := range []func() api.Errno{
		func() api.Errno { return a.spoil(t, 2, 0, "x") },
		func() api.Errno { return a.spoil(t, -1, 0, "x") },
		func() api.Errno { return a.spoil(t, 0, -1, "x") },
		func() api.Errno { return a.spoil(t, 0, 61, "four") },
		func() api.Errno { return a.spoil(t, 0, 0, "fives") },
	} {
		if e := x(); e != api.ErrArg {
			t.Errorf("Spoil is answered %d", e)
		}
	}
	a.holds(t)
	a.crash(t, 1)
	if s, _ := a.disk.Read(0); s != sA[:60]+"@@@@" {
		t.Errorf("what lasts is %x", s)
	}
}

// What either of two twins does is nothing to the other one.
func TestP74Twin(t *testing.T) {
	for turn := range 2 {
		a := start(t, 3)
		a.writes(t, 0, sA)
		a.synced(t)
		a.writes(t, 0, sB)
		a.writes(t, 1, sA, sB, sC)
		a.fuse(t, 20)
		l := []*asked{a, a.twin(t)}
		x, y := l[turn], l[1-turn]
		x.writes(t, 0, sC)
		x.writes(t, 2, sA)
		y.holds(t)
		y.writes(t, 0, sA)
		y.writes(t, 1, noughts)
		x.holds(t)
		x.spoil(t, 1, 0, "four")
		y.holds(t)
		y.synced(t)
		x.holds(t)
		x.fuse(t, 1)
		y.writes(t, 2, sB, sC)
		x.synced(t)
		y.holds(t)
		x.refused(t, 0, sA, api.ErrDown)
		y.writes(t, 0, sB)
		y.holds(t)
		y.crash(t, 1, 1)
		x.holds(t)
		y.blow(t)
		x.crash(t)
		y.holds(t)
		x.writes(t, 0, sC)
		y.holds(t)
	}
}

// A twin has the fuse of then: each burns down for itself.
func TestP74TwinFuse(t *testing.T) {
	for n := range 6 {
		a := start(t, 2)
		a.fuse(t, n+2)
		a.synced(t)
		b := a.twin(t)
		for range n + 1 {
			a.synced(t)
		}
		c := a.twin(t)
		if e := a.sync(t); e != api.ErrDown || b.disk.Down() || c.disk.Down() {
			t.Errorf("Sync is answered %d", e)
		}
		c.refused(t, 0, sA, api.ErrDown)
		for range n + 1 {
			b.writes(t, 1, sA)
		}
		b.refused(t, 1, sA, api.ErrDown)
	}
}

// A twin of a disk whose power is off has none, either.
func TestP74TwinOff(t *testing.T) {
	a := start(t, 2)
	a.writes(t, 0, sA)
	a.blow(t)
	b := a.twin(t)
	b.refused(t, 0, sA, api.ErrDown)
	b.crash(t, 1)
	b.writes(t, 0, sB)
	a.holds(t)
	a.refused(t, 0, sA, api.ErrDown)
	c := b.twin(t)
	c.blow(t)
	b.writes(t, 0, sC)
	b.holds(t)
}

// What waits for one sector goes two ways, however many waited ahead.
func TestP74TwinWrites(t *testing.T) {
	a := start(t, 1)
	for n := range 20 {
		b, c := a.twin(t), a.twin(t)
		b.writes(t, 0, some(size, int64(n)))
		c.writes(t, 0, some(size, int64(n+100)), some(size, int64(n+200)))
		a.writes(t, 0, some(size, int64(n+300)))
		b.writes(t, 0, some(size, int64(n+400)))
		a.holds(t)
		b.holds(t)
		c.holds(t)
	}
}

// Twins of twins, asked by chance.
func TestP74Chance(t *testing.T) {
	for seed := range int64(60) {
		r := rand.New(rand.NewSource(seed))
		l := []*asked{start(t, 1+r.Intn(6))}
		for range 120 {
			a := l[r.Intn(len(l))]
			if r.Intn(8) == 0 {
				l = append(l, a.twin(t))
			} else {
				anything(t, a, r)
			}
		}
		for _, a := range l {
			a.holds(t)
		}
	}
}

// anything asks one thing of a disk, drawn by chance, right or wrong.
func anything(t *testing.T, a *asked, r *rand.Rand) {
	t.Helper()
	i := r.Intn(len(a.told.lasts)+2) - 1
	switch r.Intn(9) {
	case 0, 1, 2, 3:
		a.write(t, i, some(size-r.Intn(9)/8, r.Int63()))
	case 4:
		a.sync(t)
	case 5:
		a.fuse(t, r.Intn(12)-2)
	case 6, 7:
		a.spoil(t, i, r.Intn(70)-3, some(r.Intn(6), r.Int63()))
	case 8:
		var keep []int
		for range r.Intn(6) {
			keep = append(keep, r.Intn(16)-6)
		}
		a.crash(t, keep...)
	}
}

// The chapter's examples, line by line; D is New(2).
func TestP7Examples(t *testing.T) {
	d, e := disk.New(2)
	if e != api.OK {
		t.Fatal(e)
	}
	is := func(d *disk.Disk, i int, want string) {
		t.Helper()
		if b, e := d.Read(i); b != want || e != api.OK {
			t.Errorf("Read of %d: %d, %q", i, e, b)
		}
	}
	answers := func(line int, l ...api.Errno) {
		t.Helper()
		for i := range len(l) / 2 {
			if l[2*i] != l[2*i+1] {
				t.Errorf("line %d, call %d: %d, not %d", line, i, l[2*i], l[2*i+1])
			}
		}
	}
	answers(1, d.Write(0, sA), api.OK)
	is(d, 0, sA)
	if n := d.Waits(); n != 1 {
		t.Errorf("%d wait", n)
	}
	answers(1, d.Sync(), api.OK, d.Write(0, sB), api.OK, d.Write(0, sC), api.OK)
	if n := d.Waits(); n != 2 {
		t.Errorf("%d wait", n)
	}
	for _, x := range []struct {
		keep []int
		want string
	}{{nil, sA}, {[]int{1}, sB}, {[]int{2}, sC}, {[]int{3}, sA}, {[]int{-1}, sC}} {
		w := d.Twin()
		w.Crash(x.keep)
		is(w, 0, x.want)
	}
	d.Fuse(1)
	answers(3, d.Write(1, sA), api.OK, d.Sync(), api.ErrDown)
	if !d.Down() {
		t.Error("the power is on")
	}
	if b, e := d.Read(0); b != "" || e != api.ErrDown {
		t.Errorf("Read of 0: %d, %q", e, b)
	}
	d.Crash([]int{0, 1})
	if d.Down() {
		t.Error("the power is off")
	}
	is(d, 1, sA)
	answers(5, d.Write(2, sA), api.ErrArg, d.Write(0, sA[1:]), api.ErrArg, d.Spoil(0, 62, "four"), api.ErrArg)
	if n, e := disk.New(0); n != nil || e != api.ErrArg {
		t.Errorf("New of 0: %d", e)
	}
}
