package log_test

import (
	"math/rand"
	"slices"
	"testing"

	"twinlock/api"
	"twinlock/log"
)

// harms are texts of n bytes with which bytes are spoilt: each turns one bit at least.
func harms(n int, r *rand.Rand) (l []string) {
	for _, c := range []byte{0x01, 0x80, 0xff, byte(1 + r.Intn(255))} {
		l = append(l, string(slices.Repeat([]byte{c}, n)))
	}
	// Only the ends, and any bytes.
	ends, any := make([]byte, n), make([]byte, n)
	ends[0], ends[n-1] = 1, 0x80
	r.Read(any)
	any[r.Intn(n)] |= 4
	return append(l, string(ends), string(any))
}

// harmed spoils each sound sector of a log at each of its bytes, by one to four of them, and asks Open each time, of its epoch and of another one; then it is as it was.
func harmed(t *testing.T, a *asked) {
	t.Helper()
	r := rand.New(rand.NewSource(5))
	n := 0
	for i := a.told.from; i < a.told.from+a.told.sectors; i++ {
		if s, _ := a.disk.Read(i); !isSound(s) {
			continue
		}
		n++
		for at := range size {
			for length := 1; length <= min(4, size-at); length++ {
				for _, x := range harms(length, r) {
					spoil(t, a.disk, i, at, x)
					if l, e := log.Open(a.disk, a.told.from, a.told.sectors, a.told.epoch+uint64(at%2)); l != nil || e != api.ErrSum {
						t.Fatalf("the sector %d is spoilt from %d on by %x, and Open is answered %p, %d", i, at, x, l, e)
					}
					spoil(t, a.disk, i, at, x)
				}
			}
		}
	}
	if n == 0 {
		t.Fatal("no sector is sound")
	}
	a.again(t).has(t, a.told.records...)
}

// A sound sector of the log that is spoilt bars it, wherever: of its records, of such as stand behind them, of other epochs, and broken off.
func TestP106Spoilt(t *testing.T) {
	t.Parallel()
	d := newDisk(t, 12)
	harmed(t, opened(t, d, 2, 8, 1).adds(t, "a", some(70, 1)))
	harmed(t, opened(t, d, 2, 8, 2).adds(t, ""))

	d = newDisk(t, 12)
	a := opened(t, d, 2, 8, 1).adds(t, "a")
	d.Fuse(4)
	a.denied(t, some(200, 3), api.ErrDown)
	d.Crash([]int{1, 0, 1, 1})
	harmed(t, a.again(t))

	// All of its sectors are sound, some of them no record's.
	d = newDisk(t, 12)
	for i := range 8 {
		lay(t, d, 2+i, part{head: head{uint64(i), uint64(i), 0}, number: byte(i), bytes: some(30, int64(i))}.sector())
	}
	lay(t, d, 5, closedOf(noughts[:bodySize]))
	harmed(t, opened(t, d, 2, 8, 1))
}

// Each sector of a long record.
func TestP106Long(t *testing.T) {
	t.Parallel()
	d := newDisk(t, mostParts+2)
	a := opened(t, d, 1, mostParts, 1).adds(t, some(most, 1))
	r := rand.New(rand.NewSource(6))
	for range 4000 {
		i, at := 1+r.Intn(mostParts), r.Intn(size-3)
		l := harms(1+r.Intn(4), r)
		x := l[r.Intn(len(l))]
		spoil(t, d, i, at, x)
		if l, e := log.Open(d, 1, mostParts, 1); l != nil || e != api.ErrSum {
			t.Fatalf("the sector %d is spoilt from %d on by %x, and Open is answered %p, %d", i, at, x, l, e)
		}
		spoil(t, d, i, at, x)
	}
	a.again(t).has(t, some(most, 1))
}

// Two sectors may be spoilt, and one that is spoilt twice alike is sound again.
func TestP106Two(t *testing.T) {
	a := opened(t, newDisk(t, 12), 2, 8, 1).adds(t, some(64, 1), some(96, 2), "b")
	for i := range 6 {
		for j := range i {
			spoil(t, a.disk, 2+i, i, "\x10")
			spoil(t, a.disk, 2+j, 60+j%4, "\x01")
			refused(t, a.disk, 2, 8, 1, api.ErrSum)
			spoil(t, a.disk, 2+i, i, "\x10")
			refused(t, a.disk, 2, 8, 1, api.ErrSum)
			spoil(t, a.disk, 2+j, 60+j%4, "\x01")
			a.again(t).has(t, some(64, 1), some(96, 2), "b")
		}
	}
}

// One that is open adds as before, whatever is spoilt; opened again it is barred, unless the spoilt sector was written.
func TestP106Open(t *testing.T) {
	d := newDisk(t, 12)
	opened(t, d, 2, 8, 1).adds(t, "a", "b", "c", "d")
	a := opened(t, d, 2, 8, 2)
	spoil(t, d, 3, 7, "\x01")
	refused(t, d, 2, 8, 2, api.ErrSum)
	a.adds(t, "x")
	refused(t, d, 2, 8, 2, api.ErrSum)
	a.adds(t, "y")
	a.again(t).has(t, "x", "y")
	spoil(t, d, 2, 7, "\x01")
	a.adds(t, "z")
	refused(t, d, 2, 8, 2, api.ErrSum)
}

// Only the log's sectors are written, and of them only those of what is added: not those of the records ahead, and none behind.
func TestP106Place(t *testing.T) {
	const n = 60
	for _, from := range []int{0, 1, 5, 12, 19, 20} {
		d := newDisk(t, n)
		for i := range n {
			if i < from || i >= from+40 {
				lay(t, d, i, some(size, int64(i)))
			}
		}
		for epoch := uint64(1); epoch < 40; epoch++ {
			a := opened(t, d, from, 40, epoch)
			for k, s := range []string{"", some(int(epoch)*20, 1), some(33, 2)} {
				was := readings(d)
				first := from + 40 - a.told.room()
				a.adds(t, s)
				for i, now := range readings(d) {
					if in := i >= first && i < first+len(cut(s)); !in && now != was[i] {
						t.Fatalf("record %d, from %d on: the sector %d was written", k, from, i)
					} else if in && now == was[i] {
						t.Fatalf("record %d, from %d on: the sector %d was not written", k, from, i)
					}
				}
			}
			a.denied(t, some(most+1, 1), api.ErrLong)
			d.Fuse(3)
			a.add(t, some(200, 1))
			a.add(t, "x")
			d.Crash([]int{1, 1, 1})
		}
		for i, s := range readings(d) {
			if (i < from || i >= from+40) && s != some(size, int64(i)) {
				t.Fatalf("from %d on: the sector %d was written", from, i)
			}
		}
	}
}
