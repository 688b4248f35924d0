package kept_test

import (
	"encoding/hex"
	"math"
	"slices"
	"strings"
	"testing"

	"twinlock/api"
	"twinlock/kept"
)

// The chapter's examples, line by line.
func TestP9Examples(t *testing.T) {
	b := newDisk(t, 40)
	a := b.opened(t, 20)
	a.empty(t)
	a.puts(t, "a")
	a.puts(t, "b")
	a.is(t, "b")
	b.opened(t, 20).is(t, "b")

	a = b.opened(t, 20)
	b.fuse(1)
	a.denied(t, "c", api.ErrDown)
	a.denied(t, "d", api.ErrState)
	b.crash(t)
	b.opened(t, 20).is(t, "b")

	b.refused(t, 21, api.ErrArg)
	b.refused(t, -1, api.ErrArg)
	b.opened(t, 20).denied(t, strings.Repeat("x", 401), api.ErrLong)
}

// Sectors that others reckoned.
const (
	ofA     = "010000000000000000010100610000000000000000000000000000000000000000000000000000000000000000000000000000000000000000000000f480040a"
	ofEmpty = "01000000000000000001000000000000000000000000000000000000000000000000000000000000000000000000000000000000000000000000000014f4ff04"
	firstOf = "0500000001000000000230000102030405060708090a0b0c0d0e0f101112131415161718191a1b1c1d1e1f202122232425262728292a2b2c2d2e2f3031abc8f2"
	otherOf = "050000000100000001020200313200000000000000000000000000000000000000000000000000000000000000000000000000000000000000000000c8480381"
	lastOf  = "ffffffffffffffff08091000303132333435363738396162636465660000000000000000000000000000000000000000000000000000000000000000fe7ffd03"
)

// What is written is what others reckoned.
func TestP93Bytes(t *testing.T) {
	tells := func(b *both, i int, want ...string) {
		t.Helper()
		for k, s := range want {
			if r, e := b.asked.Read(i + k); e != api.OK || hex.EncodeToString([]byte(r)) != s {
				t.Errorf("the sector %d is %x, not %s", i+k, r, s)
			}
		}
	}
	b := newDisk(t, 30)
	b.opened(t, 1).puts(t, "a")
	tells(b, 1, ofA)
	b = newDisk(t, 30)
	b.opened(t, 1).puts(t, "")
	tells(b, 1, ofEmpty)

	fifty := ""
	for i := range 50 {
		fifty += string([]byte{byte(i + 1)})
	}
	b = newDisk(t, 30)
	b.lay(t, 2, sectorsOf(partsOf("x", 1<<32+4))...)
	b.opened(t, 2).puts(t, fifty)
	tells(b, 2+slotSize, firstOf, otherOf)
	b = newDisk(t, 30)
	b.lay(t, 2, sectorsOf(partsOf("x", math.MaxUint64-1))...)
	b.opened(t, 2).puts(t, some(384, 1)+"0123456789abcdef")
	tells(b, 2+slotSize+8, lastOf)
	b = newDisk(t, 30)
	b.lay(t, 3, unhex(firstOf), unhex(otherOf))
	b.opened(t, 3).is(t, fifty)
}

// unhex is the sector that hexadecimal digits tell.
func unhex(s string) string {
	b, _ := hex.DecodeString(s)
	return string(b)
}

// Of none there is nothing to get, and nothing is put, however long.
func TestP92None(t *testing.T) {
	for name, k := range nones() {
		for _, s := range []string{"", "a", some(most, 1), some(most+1, 1)} {
			if e := k.Put(s); e != api.ErrNil {
				t.Errorf("%s: Put of %d bytes is answered %d", name, len(s), e)
			}
			if s, has := k.Get(); s != "" || has {
				t.Errorf("%s: Get is answered %q, %v", name, s, has)
			}
		}
	}
}

// Get is what was put last, before any Put nothing; an empty record is one.
func TestP92Get(t *testing.T) {
	b := newDisk(t, 20)
	a := b.opened(t, 0)
	for range 3 {
		a.empty(t)
	}
	a.puts(t, "")
	for range 3 {
		a.is(t, "")
	}
	b.opened(t, 0).is(t, "")
	for _, s := range texts() {
		a.puts(t, s)
		a.is(t, s)
		b.opened(t, 0).is(t, s)
	}
}

// Get tells what is kept with the power off, too, behind a Put that was broken off, and behind crashes and harm of which it knows nothing.
func TestP92Off(t *testing.T) {
	b := newDisk(t, 20)
	a, c := b.opened(t, 0), b.opened(t, 0)
	a.puts(t, "a", "b")
	b.blow(t)
	a.is(t, "b")
	c.empty(t)
	a.denied(t, "c", api.ErrDown)
	a.is(t, "b")
	c.denied(t, "c", api.ErrDown)
	c.empty(t)
	b.crash(t)
	a.is(t, "b")
	c.empty(t)
	b.spoil(t, slotSize, 0, "\x01")
	a.is(t, "b")
	b.lay(t, 0, slices.Repeat([]string{noughts}, sectors)...)
	a.is(t, "b")
	b.opened(t, 0).empty(t)
}

// Texts of all lengths, put one behind the other, in either slot.
func TestP93Lengths(t *testing.T) {
	b := newDisk(t, 23)
	a := b.opened(t, 2)
	for n := range most + 1 {
		a.puts(t, some(n, int64(n)))
		if n%40 == 0 {
			b.opened(t, 2).is(t, some(n, int64(n)))
		}
	}
	for n := most; n >= 0; n-- {
		a.puts(t, strings.Repeat("\x00", n))
		b.opened(t, 2).is(t, strings.Repeat("\x00", n))
	}
	for n := most + 1; n < most+60; n++ {
		a.denied(t, some(n, 1), api.ErrLong)
	}
	for _, n := range []int{480, 481, 1 << 10, 1 << 16, 1 << 20} {
		a.denied(t, strings.Repeat("\x00", n), api.ErrLong)
	}
}

// Each text, put behind each other one.
func TestP93Behind(t *testing.T) {
	t.Parallel()
	for _, s := range texts() {
		for _, r := range []string{"", "a", some(48, 1), some(49, 1), some(most, 1)} {
			b := newDisk(t, 20)
			a := b.opened(t, 0)
			a.puts(t, r, s, s, r)
			b.opened(t, 0).puts(t, s)
		}
	}
}

// The slots are taken in turn, from slot 0 on, and the generations rise by one from 1 on.
func TestP93Turn(t *testing.T) {
	b := newDisk(t, 22)
	a := b.opened(t, 1)
	for gen := uint64(1); gen < 600; gen++ {
		a.puts(t, "a")
		slot := 1 + slotSize*int((gen+1)%2)
		if s, _ := b.asked.Read(slot); s != sectorsOf(partsOf("a", gen))[0] {
			t.Fatalf("behind %d Puts the sector %d is %x", gen, slot, s)
		}
		if gen%7 == 0 {
			a = b.opened(t, 1)
		}
	}
}

// What stood in a slot behind the parts' sectors stays there.
func TestP93Stays(t *testing.T) {
	b := newDisk(t, 20)
	a := b.opened(t, 0)
	a.puts(t, some(most, 1), some(most, 2), "a", "b")
	l := seen(b.asked)
	if !slices.Equal(l[1:9], sectorsOf(partsOf(some(most, 1), 1))[1:]) || !slices.Equal(l[11:19], sectorsOf(partsOf(some(most, 2), 2))[1:]) {
		t.Errorf("the sectors are %x", l)
	}
	b.opened(t, 0).is(t, "b")
}

// A sector of all kinds with the greatest generation of all bars each Put, with the one ahead of that all but one; what is kept stays.
func TestP93Full(t *testing.T) {
	t.Parallel()
	for _, gen := range []uint64{math.MaxUint64 - 2, math.MaxUint64 - 1, math.MaxUint64} {
		for _, s := range heads(gen) {
			for _, i := range []int{0, 1, 2, 9, 10, 11, 12, 19} {
				for _, kept := range []bool{false, true} {
					b := newDisk(t, 26)
					if kept {
						b.opened(t, 6).puts(t, "a", some(60, 1))
					}
					b.lay(t, 6+i, s)
					filled(t, b, gen)
				}
			}
		}
	}
}

// filled puts as often as there are generations left, till Put is answered ErrFull; so it is when opened again, and with the power off.
func filled(t *testing.T, b *both, gen uint64) {
	t.Helper()
	a := b.opened(t, 6)
	for ; gen < math.MaxUint64; gen++ {
		a.puts(t, some(80, int64(gen)))
	}
	for range 2 {
		for _, s := range []string{"", "b", some(most, 1)} {
			a.denied(t, s, api.ErrFull)
		}
		a.denied(t, some(most+1, 1), api.ErrLong)
		a = b.opened(t, 6)
	}
	b.blow(t)
	a.denied(t, "b", api.ErrFull)
	a.denied(t, some(most+1, 1), api.ErrLong)
	b.crash(t)
	a.denied(t, "b", api.ErrFull)
}

// Records with these generations, in either slot.
func TestP93FullRecord(t *testing.T) {
	for _, gen := range []uint64{math.MaxUint64 - 2, math.MaxUint64 - 1, math.MaxUint64} {
		for _, n := range []int{0, 48, 49, most} {
			for _, slot := range []int{0, slotSize} {
				b := newDisk(t, 26)
				b.lay(t, 6+slot, sectorsOf(partsOf(some(n, 2), gen))...)
				b.opened(t, 6).is(t, some(n, 2))
				filled(t, b, gen)
			}
		}
	}
}

// The next record's generation is above all that stand in sound sectors, be they a record's or not.
func TestP93Seen(t *testing.T) {
	t.Parallel()
	for _, gen := range []uint64{0, 1, 2, 3, 4, 200, 255, 256, 1<<32 - 1, 1<<63 - 1, 1 << 63} {
		for _, s := range heads(gen) {
			for _, i := range []int{0, 1, 9, 10, 11, 19} {
				b := newDisk(t, 20)
				b.opened(t, 0).puts(t, some(97, 1), some(145, 2))
				b.lay(t, i, s)
				a := b.opened(t, 0)
				if want := max(gen, 2); a.told.seen != want {
					t.Fatalf("Seen is %d, not %d", a.told.seen, want)
				}
				a.puts(t, some(most, 3), "b")
				b.opened(t, 0).is(t, "b")
			}
		}
	}
}

// A Put of too long a text changes nothing, and the next one is as if it had not been; so with the power off.
func TestP93Long(t *testing.T) {
	b := newDisk(t, 20)
	a := b.opened(t, 0)
	long := some(most+1, 1)
	a.denied(t, long, api.ErrLong)
	a.empty(t)
	a.puts(t, "a")
	a.denied(t, long, api.ErrLong)
	a.is(t, "a")
	b.fuse(2)
	a.denied(t, long, api.ErrLong)
	a.puts(t, "b")
	a.denied(t, long, api.ErrLong)
	a.denied(t, "c", api.ErrDown)
	a.denied(t, long, api.ErrState)
	b.crash(t)
	a = b.opened(t, 0)
	a.is(t, "b")
	b.blow(t)
	a.denied(t, long, api.ErrLong)
	b.crash(t)
	a.puts(t, "c")
}

// Behind an error of the disk nothing is put any more, with the power on or off, however long it is, but by one that is opened again.
func TestP93State(t *testing.T) {
	for n := range 10 {
		for _, long := range []bool{false, true} {
			b := newDisk(t, 20)
			a := b.opened(t, 0)
			a.puts(t, "a")
			b.fuse(n)
			a.denied(t, some(most, 1), api.ErrDown)
			for range 3 {
				a.denied(t, "b", api.ErrState)
				a.denied(t, "", api.ErrState)
				if long {
					a.denied(t, some(most+1, 1), api.ErrState)
				}
				a.is(t, "a")
				b.crash(t)
			}
			b.opened(t, 0).puts(t, "c")
			a.denied(t, "b", api.ErrState)
			a.is(t, "a")
			b.opened(t, 0).is(t, "c")
		}
	}
}

// With a generation left or not, a Put that was broken off is told first.
func TestP93StateFull(t *testing.T) {
	b := newDisk(t, 20)
	b.lay(t, 3, part{gen: math.MaxUint64 - 1}.sector())
	a, c := b.opened(t, 0), b.opened(t, 0)
	b.fuse(1)
	a.denied(t, "a", api.ErrDown)
	b.crash(t)
	c.puts(t, "c")
	a.denied(t, "a", api.ErrState)
	c.denied(t, "a", api.ErrFull)
	b.opened(t, 0).denied(t, "a", api.ErrFull)
	b.opened(t, 0).is(t, "c")
}

// The power may have gone ahead of a Put.
func TestP93Off(t *testing.T) {
	b := newDisk(t, 20)
	a := b.opened(t, 0)
	a.puts(t, "a")
	b.blow(t)
	a.denied(t, "b", api.ErrDown)
	a.denied(t, "b", api.ErrState)
	b.crash(t, 1, 1, 1)
	a.denied(t, "b", api.ErrState)
	b.opened(t, 0).is(t, "a")
}

// A Put takes as many acts as the text has parts, and one.
func TestP93Acts(t *testing.T) {
	t.Parallel()
	for _, s := range texts() {
		n := len(cut(s))
		for acts := range n + 3 {
			b := newDisk(t, 21)
			a := b.opened(t, 1)
			a.puts(t, "a")
			b.fuse(acts)
			if acts <= n {
				a.denied(t, s, api.ErrDown)
				if b.asked.Waits() != acts {
					t.Errorf("%d writes wait, not %d", b.asked.Waits(), acts)
				}
				continue
			}
			a.puts(t, s)
			if left(b.asked) != acts-n-1 || b.asked.Waits() != 0 {
				t.Errorf("%d acts are left, %d writes wait", left(b.asked), b.asked.Waits())
			}
		}
	}
}

// A Put syncs what others wrote, too: the disk is synced.
func TestP93Syncs(t *testing.T) {
	b := newDisk(t, 30)
	a := b.opened(t, 5)
	b.write(t, 0, some(size, 1))
	b.write(t, 29, some(size, 2))
	a.denied(t, some(most+1, 1), api.ErrLong)
	if b.asked.Waits() != 2 {
		t.Errorf("%d writes wait", b.asked.Waits())
	}
	a.puts(t, "a")
	if b.asked.Waits() != 0 {
		t.Errorf("%d writes wait", b.asked.Waits())
	}
}

// Two records side by side know nothing of one another.
func TestP93Neighbours(t *testing.T) {
	b := newDisk(t, 3*sectors)
	l := []*asked{b.opened(t, 0), b.opened(t, sectors), b.opened(t, 2*sectors)}
	now := make([]string, 3)
	for i := range 60 {
		k := i * i % 7 % 3
		now[k] = some(i*37%(most+1), int64(i))
		l[k].puts(t, now[k])
		for j, a := range l {
			if j == k || a.told.has {
				a.is(t, now[j])
			}
			if again := b.opened(t, j*sectors); again.told.has {
				again.is(t, now[j])
			}
		}
	}
	b.fuse(1)
	l[1].denied(t, "x", api.ErrDown)
	b.crash(t, 1)
	l[1].denied(t, "x", api.ErrState)
	l[0].puts(t, "y")
	l[2].puts(t, "z")
	b.opened(t, sectors).puts(t, "w")
	b.opened(t, 0).is(t, "y")
	b.opened(t, 2*sectors).is(t, "z")
}

// Places may lie over one another: each does as it was opened.
func TestP93Over(t *testing.T) {
	b := newDisk(t, 40)
	a, c := b.opened(t, 0), b.opened(t, slotSize)
	a.puts(t, "a", some(most, 1))
	b.opened(t, slotSize).is(t, some(most, 1))
	c.puts(t, "c")
	b.opened(t, 0).is(t, "a")
	b.opened(t, slotSize).is(t, "c")
	a.puts(t, "b", "d")
	b.opened(t, 3)
}

// One place that is opened twice: each goes on from what it saw, and what it put.
func TestP93Twice(t *testing.T) {
	b := newDisk(t, 20)
	a, c := b.opened(t, 0), b.opened(t, 0)
	if a.kept == c.kept {
		t.Error("it is one")
	}
	a.puts(t, "a")
	c.empty(t)
	c.puts(t, "c")
	a.is(t, "a")
	b.opened(t, 0).is(t, "c")
	a.puts(t, some(300, 1))
	b.opened(t, 0).is(t, some(300, 1))
	c.is(t, "c")
	c.puts(t, some(100, 2))
	b.opened(t, 0)
	b.fuse(0)
	a.denied(t, "x", api.ErrDown)
	b.crash(t)
	c.puts(t, "y", "z")
	b.opened(t, 0).is(t, "z")
	a.denied(t, "x", api.ErrState)
}

// A disk's twin is another disk: what is put on the one isn't on the other.
func TestP93Twin(t *testing.T) {
	b := newDisk(t, 20)
	a := b.opened(t, 0)
	a.puts(t, "a")
	c := b.twin()
	d := c.opened(t, 0)
	d.puts(t, "c", "d")
	a.puts(t, "b")
	b.opened(t, 0).is(t, "b")
	c.opened(t, 0).is(t, "d")
}

// What was handed in is not kept: written over, it changes nothing; neither does a text that was answered.
func TestP93Memory(t *testing.T) {
	for _, n := range []int{1, 48, 49, most, most + 1} {
		d := newDisk(t, 20).asked
		k, _ := kept.Open(d, 0)
		want := some(n, 3)
		s, b := again(want)
		if e := k.Put(s); e != api.OK && n <= most || string(b) != want {
			t.Fatalf("Put of %d bytes is answered %d, its text is %q now", n, e, b)
		}
		if clear(b); n > most {
			continue
		}
		for range 2 {
			got, has := k.Get()
			if got != want || !has {
				t.Fatalf("Get is answered %q", got)
			}
			wipe(got)
		}
		k, _ = kept.Open(d, 0)
		if got, _ := k.Get(); got != want {
			t.Fatalf("opened again, Get is answered %q", got)
		}
	}
}
