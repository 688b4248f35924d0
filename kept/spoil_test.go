package kept_test

import (
	"math/rand"
	"slices"
	"testing"

	"twinlock/api"
	"twinlock/disk"
	"twinlock/kept"
)

// harms are texts of n bytes with which bytes are spoilt: each turns one bit at least.
func harms(n int, r *rand.Rand) []string {
	l := []string{}
	for _, c := range []byte{0x01, 0x80, 0xff, byte(1 + r.Intn(255))} {
		b := make([]byte, n)
		for i := range b {
			b[i] = c
		}
		l = append(l, string(b))
	}
	// Only the ends, and any bytes.
	ends, any := make([]byte, n), make([]byte, n)
	ends[0], ends[n-1] = 1, 0x80
	r.Read(any)
	any[r.Intn(n)] |= 4
	return append(l, string(ends), string(any))
}

// harmed spoils each sound sector of a place at each of its bytes, by one to four of them, and asks Open each time; then it is as it was.
func harmed(t *testing.T, d *disk.Disk, from int) {
	t.Helper()
	want, has := told(t, d, from)
	r := rand.New(rand.NewSource(5))
	n := 0
	for i := from; i < from+sectors; i++ {
		if s, _ := d.Read(i); !isSound(s) {
			continue
		}
		n++
		for at := range size {
			for length := 1; length <= min(4, size-at); length++ {
				for _, x := range harms(length, r) {
					if e := d.Spoil(i, at, x); e != api.OK {
						t.Fatalf("Spoil is answered %d", e)
					}
					if k, e := kept.Open(d, from); k != nil || e != api.ErrSum {
						t.Fatalf("the sector %d is spoilt from %d on by %x, and Open is answered %p, %d", i, at, x, k, e)
					}
					d.Spoil(i, at, x)
				}
			}
		}
	}
	if n == 0 {
		t.Fatal("no sector is sound")
	}
	if s, is := told(t, d, from); s != want || is != has {
		t.Fatalf("behind all that there is %q, %v, not %q, %v", s, is, want, has)
	}
}

// A sound sector of the place that is spoilt bars it, wherever: of what is kept, of what was kept, behind these, and broken off.
func TestP95Spoilt(t *testing.T) {
	t.Parallel()
	for _, story := range [][]string{{"a"}, {"", some(most, 1)}, {some(most, 1), some(most, 2)}, {some(most, 1), some(300, 2), "a"}} {
		a := grown(t, story...)
		harmed(t, a.disks.asked, 2)
	}
	a := grown(t, some(200, 1), some(100, 2), "a")
	a.disks.fuse(5)
	a.denied(t, some(most, 3), api.ErrDown)
	a.disks.crash(t, 1, 0, 1, 1)
	harmed(t, a.disks.asked, 2)

	// All of the place's sectors are sound, some of them no record's.
	b := newDisk(t, 24)
	for i := range sectors {
		b.lay(t, 2+i, part{gen: uint64(i), number: byte(i), bytes: some(40, int64(i))}.sector())
	}
	harmed(t, b.asked, 2)
	b = newDisk(t, 24)
	b.lay(t, 2, slices.Repeat([]string{closedOf(noughts[:bodySize])}, sectors)...)
	harmed(t, b.asked, 2)
}

// Two sectors may be spoilt, and one that is spoilt twice alike is sound again.
func TestP95Two(t *testing.T) {
	b := grown(t, some(most, 1), some(most, 2)).disks
	for i := range 9 {
		for j := range 9 {
			b.spoil(t, 2+i, i, "\x10")
			b.spoil(t, 2+slotSize+j, 60+j%4, "\x01")
			b.refused(t, 2, api.ErrSum)
			b.spoil(t, 2+i, i, "\x10")
			b.refused(t, 2, api.ErrSum)
			b.spoil(t, 2+slotSize+j, 60+j%4, "\x01")
			b.opened(t, 2).is(t, some(most, 2))
		}
	}
}

// One that is open writes as before, whatever is spoilt; opened again it is barred, unless the spoilt sector was written.
func TestP95Open(t *testing.T) {
	a := grown(t, some(100, 1), some(100, 2))
	b := a.disks
	b.spoil(t, 3, 7, "\x01")
	b.refused(t, 2, api.ErrSum)
	a.puts(t, some(60, 3))
	b.opened(t, 2).is(t, some(60, 3))
	b.spoil(t, 4, 7, "\x01")
	a.puts(t, "x", "y", "z")
	b.refused(t, 2, api.ErrSum)
}

// Only sectors of the place are written, in it only those of one slot, and nothing else waits.
func TestP95Place(t *testing.T) {
	const n = 45
	for _, from := range []int{0, 1, 5, 12, 24, 25} {
		b := newDisk(t, n)
		for i := range n {
			if i < from || i >= from+sectors {
				b.lay(t, i, some(size, int64(i)))
			}
		}
		a := b.opened(t, from)
		for i, s := range append(texts(), texts()...) {
			was := seen(b.asked)
			a.puts(t, s)
			slot := from + i%2*slotSize
			for k, now := range seen(b.asked) {
				if in := k >= slot && k < slot+len(cut(s)); !in && now != was[k] {
					t.Fatalf("the sector %d was written, from is %d, the slot begins with %d", k, from, slot)
				} else if in && now == was[k] {
					t.Fatalf("the sector %d was not written", k)
				}
			}
		}
		a.denied(t, some(most+1, 1), api.ErrLong)
		b.fuse(4)
		a.denied(t, some(most, 1), api.ErrDown)
		b.crash(t, 1, 1, 0, 1)
		for i, s := range seen(b.asked) {
			if (i < from || i >= from+sectors) && s != some(size, int64(i)) {
				t.Fatalf("the sector %d was written, from is %d", i, from)
			}
		}
	}
}
