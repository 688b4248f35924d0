package log_test

import (
	"encoding/hex"
	"math"
	"slices"
	"strings"
	"testing"
	"unsafe"

	"twinlock/api"
	"twinlock/disk"
	"twinlock/kept"
	"twinlock/log"
)

// The chapter's examples, line by line.
func TestP10Examples(t *testing.T) {
	d := newDisk(t, 8)
	long := strings.Repeat("x", 33)
	a := opened(t, d, 1, 4, 1)
	a.adds(t, "a")
	a.adds(t, long)
	if n := a.log.Room(); n != 1 {
		t.Errorf("Room is %d", n)
	}
	a.denied(t, long, api.ErrFull)
	a.has(t, "a", long)

	b := opened(t, d, 1, 4, 2)
	b.has(t)
	if n := b.log.Room(); n != 4 {
		t.Errorf("Room is %d", n)
	}
	b.adds(t, "b")
	opened(t, d, 1, 4, 1).has(t)
	opened(t, d, 1, 4, 2).has(t, "b")

	for s, want := range map[string]int{"": 1, strings.Repeat("x", 32): 1, long: 2} {
		if n := log.Parts(s); n != want {
			t.Errorf("Parts of %d bytes is %d, not %d", len(s), n, want)
		}
	}
	refused(t, d, 5, 4, 1, api.ErrArg)
	refused(t, d, 1, 4, 0, api.ErrArg)
}

// Sectors that others reckoned.
const (
	ofA     = "010000000000000001000000000000000000000000000000000101006100000000000000000000000000000000000000000000000000000000000000a8de1cf2"
	behindA = "01000000000000000200000000000000010000000000000000010000000000000000000000000000000000000000000000000000000000000000000037d0eef8"
	firstOf = "080706050403020106000000010000000000000000000000000220000102030405060708090a0b0c0d0e0f101112131415161718191a1b1c1d1e1f2091792850"
	otherOf = "080706050403020106000000010000000000000000000000010212002122232425262728292a2b2c2d2e2f30313200000000000000000000000000008b52752e"
	lastOf  = "fffffffffffffffffffffffffffffffffeffffffffffffff1f2020003031323334353637383961626364656630313233343536373839616263646566cbd111da"
)

// What is written is what others reckoned.
func TestP103Bytes(t *testing.T) {
	tells := func(d *disk.Disk, i int, want ...string) {
		t.Helper()
		for k, s := range want {
			if r, e := d.Read(i + k); e != api.OK || hex.EncodeToString([]byte(r)) != s {
				t.Errorf("the sector %d is %x, not %s", i+k, r, s)
			}
		}
	}
	d := newDisk(t, 4)
	opened(t, d, 1, 3, 1).adds(t, "a", "")
	tells(d, 1, ofA, behindA)

	fifty := ""
	for i := range 50 {
		fifty += string([]byte{byte(i + 1)})
	}
	d = newDisk(t, 5)
	lay(t, d, 4, part{head: head{salt: 1<<32 + 5}}.sector())
	opened(t, d, 2, 3, 0x0102030405060708).adds(t, fifty)
	tells(d, 2, firstOf, otherOf)
	opened(t, d, 2, 3, 0x0102030405060708).has(t, fifty)

	d = newDisk(t, 40)
	lay(t, d, 39, part{head: head{salt: math.MaxUint64 - 2}}.sector())
	opened(t, d, 2, 38, math.MaxUint64).adds(t, "x", some(992, 1)+"0123456789abcdef0123456789abcdef")
	tells(d, 2+1+31, lastOf)
}

// Of none there are no records and no room, and nothing is added, however long.
func TestP102None(t *testing.T) {
	for name, l := range map[string]*log.Log{"nil": nil, "not made": {}, "new": new(log.Log)} {
		for _, s := range []string{"", "a", some(most, 1), some(most+1, 1)} {
			if e := l.Add(s); e != api.ErrNil {
				t.Errorf("%s: Add of %d bytes is answered %d", name, len(s), e)
			}
			if r, n := l.Records(), l.Room(); len(r) != 0 || n != 0 {
				t.Errorf("%s: there are %q, and room for %d", name, r, n)
			}
		}
	}
}

// Records are told in their order, as often as they are asked for; two alike are two.
func TestP102Order(t *testing.T) {
	d := newDisk(t, 60)
	a := opened(t, d, 0, 60, 1)
	var all []string
	for _, s := range []string{"b", "a", "", some(64, 1), "a", "a", "", some(64, 1), "\x00", some(33, 2)} {
		a.adds(t, s)
		all = append(all, s)
		for range 3 {
			a.has(t, all...)
		}
		a.again(t).has(t, all...)
	}
}

// Records and Room are told with the power off, too, behind an Add that was broken off, and behind crashes and harm of which the log knows nothing.
func TestP102Off(t *testing.T) {
	d := newDisk(t, 10)
	a, b := opened(t, d, 0, 10, 1), opened(t, d, 0, 10, 1)
	a.adds(t, "a", "b")
	blow(t, d)
	a.has(t, "a", "b")
	b.has(t)
	a.denied(t, "c", api.ErrDown)
	a.has(t, "a", "b")
	d.Crash(nil)
	a.has(t, "a", "b")
	spoil(t, d, 0, 0, "\x01")
	a.has(t, "a", "b")
	lay(t, d, 0, slices.Repeat([]string{noughts}, 10)...)
	a.has(t, "a", "b")
	a.again(t).has(t)
}

// wipe writes over a text, wherever else it may be kept.
func wipe(text string) { clear(unsafe.Slice(unsafe.StringData(text), len(text))) }

// What Records answers is the caller's own: to change it, its texts' bytes too, changes no log, nor what was answered ahead.
func TestP102Memory(t *testing.T) {
	want := []string{"ab", some(32, 1), some(33, 2), some(most, 3)}
	d := newDisk(t, 40)
	a := opened(t, d, 0, 40, 1).adds(t, want...)
	for _, l := range []*log.Log{a.log, a.again(t).log} {
		first := l.Records()
		for range 2 {
			r := l.Records()
			for i := range r {
				wipe(r[i])
				r[i] = "changed"
			}
			r = append(r[:1], "more", "yet more")
			if !slices.Equal(l.Records(), want) || !slices.Equal(first, want) {
				t.Fatalf("Records are %q, they were %q", l.Records(), first)
			}
		}
		if e := l.Add("b"); e != api.OK && e != api.ErrFull {
			t.Fatalf("Add is answered %d", e)
		}
	}
}

// What was handed in is not kept: written over, it changes nothing.
func TestP103Memory(t *testing.T) {
	for _, n := range []int{1, 32, 33, most, most + 1} {
		d := newDisk(t, 40)
		l, _ := log.Open(d, 0, 40, 1)
		want := some(n, 3)
		b := []byte(want)
		e := l.Add(unsafe.String(unsafe.SliceData(b), n))
		if string(b) != want {
			t.Fatalf("Add of %d bytes is answered %d, and changed them", n, e)
		}
		clear(b)
		all := l.Records()
		if n <= most && (e != api.OK || !slices.Equal(all, []string{want})) || n > most && (e != api.ErrLong || len(all) != 0) {
			t.Fatalf("Add of %d bytes is answered %d, Records %q", n, e, all)
		}
	}
}

// Records of all lengths, one behind the other, in as many logs as they fill.
func TestP103Lengths(t *testing.T) {
	t.Parallel()
	const sectors = 600
	d := newDisk(t, sectors+2)
	epoch := uint64(1)
	a := opened(t, d, 1, sectors, epoch)
	for n := range most + 1 {
		s := some(n, int64(n))
		if a.told.room() < len(cut(s)) {
			a.denied(t, s, api.ErrFull)
			a.again(t).has(t, a.told.records...)
			epoch++
			a = opened(t, d, 1, sectors, epoch)
		}
		a.adds(t, s)
	}
	a.again(t).has(t, a.told.records...)
}

// Each text, with noughts at its ends or without, behind each other one.
func TestP103Behind(t *testing.T) {
	t.Parallel()
	for _, s := range texts() {
		for _, r := range []string{"", "a", some(32, 1), some(33, 1), some(most, 1)} {
			d := newDisk(t, 140)
			a := opened(t, d, 1, 138, 1).adds(t, r, s, s, r)
			a.again(t).has(t, r, s, s, r)
		}
	}
}

// A record that just fills the room is added; of one sector too many nothing is, and a smaller one is still added.
func TestP103Room(t *testing.T) {
	t.Parallel()
	for room := 1; room <= mostParts; room++ {
		for ahead := range 3 {
			for _, n := range []int{room*piece - 31, room*piece - 1, room * piece} {
				d := newDisk(t, 50)
				a := opened(t, d, 4, room+ahead, 1).adds(t, slices.Repeat([]string{"a"}, ahead)...)
				more := some(room*piece+1, 1)
				if room < mostParts {
					a.denied(t, more, api.ErrFull)
					a.again(t).denied(t, more, api.ErrFull)
				}
				x := opened(t, d.Twin(), 4, room+ahead, 1).adds(t, some(n, 2))
				for _, s := range []string{"", "b", more[:piece+1]} {
					x.denied(t, s, api.ErrFull)
					x.again(t).denied(t, s, api.ErrFull)
				}
				a.adds(t, "c")
				if room > 1 {
					a.denied(t, some(n, 2), api.ErrFull)
					a.adds(t, some(n-piece, 2))
				}
				a.denied(t, "", api.ErrFull)
				a.again(t)
			}
		}
	}
}

// Too long a record is told ahead of a full log, and changes nothing; the next one is added as if it had not been; so with the power off.
func TestP103Long(t *testing.T) {
	d := newDisk(t, 40)
	a := opened(t, d, 0, 34, 1)
	for _, n := range []int{most + 1, most + 2, most + 31, most + 32, most + 33, 1 << 16, 1 << 20} {
		a.denied(t, strings.Repeat("\x00", n), api.ErrLong)
	}
	a.has(t)
	long := some(most+1, 1)
	a.adds(t, "a", some(most, 1))
	a.denied(t, long, api.ErrLong)
	a.denied(t, "bb"+some(32, 1), api.ErrFull)
	a.adds(t, "b")
	for range 2 {
		a.denied(t, long, api.ErrLong)
		a.denied(t, "", api.ErrFull)
		a.has(t, "a", some(most, 1), "b")
		a = a.again(t)
	}
	blow(t, d)
	a.denied(t, long, api.ErrLong)
	a.denied(t, "", api.ErrFull)
	d.Crash(nil)
	a.denied(t, "", api.ErrFull)
	a.again(t).has(t, "a", some(most, 1), "b")
}

// Records that are refused take no act from the fuse, and no salt.
func TestP103Refused(t *testing.T) {
	d := newDisk(t, 10)
	a := opened(t, d, 0, 3, 1).adds(t, "a")
	d.Fuse(2)
	for range 5 {
		a.denied(t, some(most+1, 1), api.ErrLong)
		a.denied(t, some(65, 1), api.ErrFull)
	}
	a.adds(t, "b")
	a.denied(t, "c", api.ErrDown)
	a.denied(t, some(most+1, 1), api.ErrState)
	a.denied(t, some(65, 1), api.ErrState)
	d.Crash(nil)
	a.again(t).adds(t, "c").has(t, "a", "b", "c")
}

// Behind an error of the disk nothing is added any more, with the power on or off, whatever it is, but by one that is opened again.
func TestP103State(t *testing.T) {
	for n := range 4 {
		d := newDisk(t, 12)
		a := opened(t, d, 0, 12, 1).adds(t, "a")
		d.Fuse(n)
		a.denied(t, some(96, 1), api.ErrDown)
		for range 3 {
			for _, s := range []string{"", "b", some(12*32, 1), some(most, 1), some(most+1, 1)} {
				a.denied(t, s, api.ErrState)
			}
			a.has(t, "a")
			d.Crash(nil)
		}
		b := a.again(t).adds(t, "c")
		a.denied(t, "b", api.ErrState)
		a.has(t, "a")
		b.again(t).has(t, "a", "c")
		b.adds(t, "d").again(t).has(t, "a", "c", "d")
	}
}

// The power may have gone ahead of an Add.
func TestP103Off(t *testing.T) {
	d := newDisk(t, 8)
	a := opened(t, d, 0, 8, 1).adds(t, "a")
	b := a.again(t)
	blow(t, d)
	a.denied(t, "b", api.ErrDown)
	a.denied(t, "b", api.ErrState)
	d.Crash([]int{1, 1, 1})
	a.denied(t, "b", api.ErrState)
	b.adds(t, "b")
	b.again(t).has(t, "a", "b")
}

// An Add takes as many acts as the record has parts, and one: the parts' writes, in their order, and a Sync.
func TestP103Acts(t *testing.T) {
	t.Parallel()
	for _, s := range texts() {
		n := len(cut(s))
		for acts := range n + 3 {
			d := newDisk(t, 36)
			a := opened(t, d, 1, 34, 1).adds(t, "a")
			d.Fuse(acts)
			if acts <= n {
				a.denied(t, s, api.ErrDown)
				if d.Waits() != acts {
					t.Errorf("%d writes wait, not %d", d.Waits(), acts)
				}
				continue
			}
			a.adds(t, s)
			if x := stand(d); x.acts != acts-n-1 || x.waits != 0 {
				t.Errorf("%d acts are left, %d writes wait", x.acts, x.waits)
			}
		}
	}
}

// An Add syncs what others wrote, too: the disk is synced.
func TestP103Syncs(t *testing.T) {
	d := newDisk(t, 12)
	a := opened(t, d, 2, 8, 1)
	d.Write(0, some(size, 1))
	d.Write(11, some(size, 2))
	a.denied(t, some(most+1, 1), api.ErrLong)
	a.denied(t, some(9*32, 1), api.ErrFull)
	if d.Waits() != 2 {
		t.Errorf("%d writes wait", d.Waits())
	}
	a.adds(t, "a")
	if d.Waits() != 0 {
		t.Errorf("%d writes wait", d.Waits())
	}
}

// heads are sound sectors of all kinds with a salt, most of them of no record.
func heads(salt uint64) (l []string) {
	for _, epoch := range []uint64{0, 1, 2, math.MaxUint64} {
		l = append(l, sectorsOf(partsOf(some(40, 5), head{epoch, salt, 0}))...)
		l = append(l, part{head: head{epoch: epoch, salt: salt, ahead: 9}, number: 200, count: 3, bytes: "no record's"}.sector())
	}
	return append(l, part{head: head{salt: salt}}.sector(), part{head: head{math.MaxUint64, salt, math.MaxUint64}, number: 255, count: 255, length: 255, nought: 255, bytes: strings.Repeat("\xff", piece)}.sector())
}

// The next record's salt is above all that stand in the log's sound sectors, be they a record's or not, and of whatever epoch; those of other sectors don't count.
func TestP103Salt(t *testing.T) {
	t.Parallel()
	for _, salt := range []uint64{0, 1, 2, 3, 4, 200, 255, 256, 1<<32 - 1, 1<<63 - 1, 1 << 63} {
		for _, s := range heads(salt) {
			for i := range 10 {
				d := newDisk(t, 10)
				opened(t, d, 1, 8, 1).adds(t, "a", some(40, 1))
				lay(t, d, i, s)
				a := opened(t, d, 1, 8, 1)
				want := uint64(2)
				if i >= 1 && i <= 8 {
					want = max(salt, 2)
				}
				if a.told.salt != want {
					t.Fatalf("the reckoning tells the salt %d, not %d", a.told.salt, want)
				}
				a.adds(t, "b", some(33, 2))
				a.again(t).has(t, a.told.records...)
				if r, _ := d.Read(1 + 8 - a.told.room() - 1); number(r, 1) != want+2 {
					t.Fatalf("the last record's salt is %d, not %d", number(r, 1), want+2)
				}
			}
		}
	}
}

// A sound sector with the greatest salt of all bars each Add, whatever it is of, and wherever it stands; with the one ahead of that one Add is done.
func TestP103Full(t *testing.T) {
	t.Parallel()
	for _, salt := range []uint64{math.MaxUint64 - 2, math.MaxUint64 - 1, math.MaxUint64} {
		for _, s := range heads(salt) {
			for i := range 10 {
				for _, story := range [][]string{nil, {"a", some(40, 1)}} {
					for epoch := uint64(1); epoch < 3; epoch++ {
						d := newDisk(t, 14)
						opened(t, d, 2, 10, 1).adds(t, story...)
						lay(t, d, 2+i, s)
						filled(t, opened(t, d, 2, 10, epoch), salt)
					}
				}
			}
		}
	}
}

// filled adds as often as there are salts left, till Add is answered ErrFull; so it is when opened again, and with the power off.
func filled(t *testing.T, a *asked, salt uint64) {
	t.Helper()
	for ; salt < math.MaxUint64; salt++ {
		a.adds(t, some(int(salt%3), 1))
	}
	all := a.told.records
	for range 2 {
		for _, s := range []string{"", "b", some(40, 1), some(most, 1)} {
			a.denied(t, s, api.ErrFull)
		}
		a.denied(t, some(most+1, 1), api.ErrLong)
		a = a.again(t)
		a.has(t, all...)
	}
	blow(t, a.disk)
	a.denied(t, "b", api.ErrFull)
	a.denied(t, some(most+1, 1), api.ErrLong)
	a.disk.Crash(nil)
	a.denied(t, "b", api.ErrFull)
}

// Such a sector just before the log or just behind it bars nothing.
func TestP103FullBeside(t *testing.T) {
	for _, i := range []int{1, 6} {
		d := newDisk(t, 8)
		lay(t, d, i, heads(math.MaxUint64)[0])
		a := opened(t, d, 2, 4, 1).adds(t, "a", "b")
		a.again(t).adds(t, "c").has(t, "a", "b", "c")
		opened(t, d, 1, 6, 1).denied(t, "a", api.ErrFull)
	}
}

// Two logs whose places are side by side know nothing of one another, be they of one epoch or not, nor does a record that is kept between them.
func TestP103Neighbours(t *testing.T) {
	t.Parallel()
	for _, epochs := range [][2]uint64{{1, 1}, {1, 2}, {2, 1}} {
		d := newDisk(t, 40+kept.Sectors)
		k, e := kept.Open(d, 20)
		if e != api.OK {
			t.Fatalf("kept.Open is answered %d", e)
		}
		l := []*asked{opened(t, d, 0, 9, epochs[0]), opened(t, d, 9, 11, epochs[1]), opened(t, d, 20+kept.Sectors, 20, 1)}
		for i := range 60 {
			a := l[i*i%7%3]
			a.add(t, some(i*37%70, int64(i)))
			if e := k.Put(some(i*6, 1)); e != api.OK {
				t.Fatalf("Put is answered %d", e)
			}
			for _, a := range l {
				a.again(t).has(t, a.told.records...)
			}
			again, _ := kept.Open(d, 20)
			if s, has := again.Get(); s != some(i*6, 1) || !has {
				t.Fatalf("there is kept %q, %v", s, has)
			}
		}
		d.Fuse(1)
		x := opened(t, d, 9, 11, 9)
		x.denied(t, some(33, 1), api.ErrDown)
		d.Crash([]int{1})
		for _, a := range []*asked{l[0], l[2]} {
			a.again(t).has(t, a.told.records...)
		}
		again, _ := kept.Open(d, 20)
		if s, has := again.Get(); s != some(59*6, 1) || !has {
			t.Fatalf("there is kept %q, %v", s, has)
		}
	}
}

// The greatest log that there is, full of the longest records.
func TestP103Greatest(t *testing.T) {
	d := newDisk(t, api.MaxDisk)
	l, e := log.Open(d, 0, api.MaxDisk, math.MaxUint64)
	if e != api.OK {
		t.Fatalf("Open is answered %d", e)
	}
	var all []string
	for i := range api.MaxDisk / mostParts {
		s := some(most-i%piece, int64(i))
		all = append(all, s)
		if e := l.Add(s); e != api.OK {
			t.Fatalf("Add is answered %d", e)
		}
	}
	if l.Room() != 0 || l.Add("") != api.ErrFull {
		t.Errorf("there is room for %d", l.Room())
	}
	l, e = log.Open(d, 0, api.MaxDisk, math.MaxUint64)
	if e != api.OK || !slices.Equal(l.Records(), all) || l.Room() != 0 {
		t.Errorf("Open is answered %d; there are %d records, and room for %d", e, len(l.Records()), l.Room())
	}
}

// A log that is opened twice: each goes on from what it saw, and what it added.
func TestP103Twice(t *testing.T) {
	d := newDisk(t, 8)
	a, b := opened(t, d, 0, 8, 1), opened(t, d, 0, 8, 1)
	if a.log == b.log {
		t.Error("it is one")
	}
	a.adds(t, "a", "b")
	b.has(t)
	b.adds(t, "c")
	a.has(t, "a", "b")
	a.again(t)
	a.adds(t, "d")
	b.has(t, "c")
	d.Fuse(0)
	b.denied(t, "x", api.ErrDown)
	d.Crash(nil)
	a.adds(t, "e")
	b.denied(t, "x", api.ErrState)
	a.again(t)
}

// A disk's twin is another disk: what is added on the one isn't on the other.
func TestP103Twin(t *testing.T) {
	d := newDisk(t, 8)
	a := opened(t, d, 0, 8, 1).adds(t, "a")
	x := d.Twin()
	b := opened(t, x, 0, 8, 1).adds(t, "b", "c")
	a.adds(t, some(33, 1))
	a.again(t).has(t, "a", some(33, 1))
	b.again(t).has(t, "a", "b", "c")
}
