package log_test

import (
	"math"
	"math/rand"
	"slices"
	"testing"

	"twinlock/api"
	"twinlock/log"
)

// With an epoch of which nothing was written there are no records, whatever was written of others, and all is room.
func TestP105Fresh(t *testing.T) {
	t.Parallel()
	for _, story := range stories() {
		d := grown(t, story...).disk
		for _, epoch := range []uint64{2, 3, 1 << 8, 1 << 32, 1<<32 + 1, 1 << 63, math.MaxUint64} {
			a := opened(t, d.Twin(), from, sectors, epoch)
			a.has(t)
			if n := a.log.Room(); n != sectors {
				t.Fatalf("Room is %d, not %d", n, sectors)
			}
			// To open it changes nothing for the elder one.
			opened(t, a.disk, from, sectors, 1).has(t, story...)
			a.adds(t, "x")
			a.again(t).has(t, "x")
			opened(t, a.disk, from, sectors, 1).has(t)
			opened(t, a.disk, from, sectors, epoch-1).has(t)
		}
	}
}

// rows are all rows of at most n records, of one to three parts each.
func rows(n int) (l [][]string) {
	l = [][]string{nil}
	for at := 0; at < len(l); at++ {
		if len(l[at]) == n {
			continue
		}
		for k := range 3 {
			l = append(l, append(slices.Clone(l[at]), some(piece*k+1+k*15, int64(at))))
		}
	}
	return l
}

// Elder records stand behind the newer ones, of another epoch and of the same one, wherever the parts' ends meet: they never come back.
func TestP105Over(t *testing.T) {
	t.Parallel()
	for _, elder := range rows(3) {
		for _, newer := range rows(2)[1:] {
			d := newDisk(t, 16)
			one := opened(t, d, 1, 14, 1).adds(t, elder...)
			two := opened(t, d, 1, 14, 2)
			two.has(t)
			for i, s := range newer {
				two.adds(t, s)
				two.again(t).has(t, newer[:i+1]...)
				one.again(t).has(t)
				opened(t, d, 1, 14, 3).has(t)
			}
			// The elder epoch once more: of its own elder records there is none.
			one = one.again(t)
			for i, s := range newer {
				one.adds(t, s)
				one.again(t).has(t, newer[:i+1]...)
				two.again(t).has(t)
			}
			one.adds(t, "x")
			one.again(t).has(t, append(slices.Clone(newer), "x")...)
		}
	}
}

// So it is, if the same records are added again: of an epoch's first ones there are just those that stand behind one another.
func TestP105Same(t *testing.T) {
	for _, n := range []int{0, 1, 32, 33, 64, 100} {
		s := some(n, 4)
		for first := uint64(1); first < 3; first++ {
			d := newDisk(t, 20)
			opened(t, d, 0, 20, first).adds(t, s, s, s, s)
			opened(t, d, 0, 20, 3-first).adds(t, s)
			opened(t, d, 0, 20, first).has(t)
			opened(t, d, 0, 20, 3-first).has(t, s)
			a := opened(t, d, 0, 20, first).adds(t, s)
			a.again(t).has(t, s)
			opened(t, d, 0, 20, 3-first).has(t)
			a.adds(t, s, s)
			a.again(t).has(t, s, s, s)
			opened(t, d, 0, 20, 3-first).adds(t, s, s)
			opened(t, d, 0, 20, 3-first).has(t, s, s)
			a.again(t).has(t)
		}
	}
}

// An Add of another epoch that is broken off, of whichever sectors a crash keeps: the elder records are there up to where it was written over them, and of the newer epoch there is the broken one, or none.
func TestP105Broken(t *testing.T) {
	t.Parallel()
	for _, elder := range rows(3)[1:] {
		for _, newer := range []string{"", some(40, 2), some(80, 3)} {
			d := grown(t, elder...).disk
			for acts := range len(cut(newer)) + 1 {
				torn(t, d, 2, newer, acts, func(a *asked, whole bool) {
					a.has(t, []string{newer}[:bit(whole)]...)
					// The first sector that isn't the elder records' any more ends them.
					l, end := readings(d), 0
					for i, s := range readings(a.disk) {
						if s != l[i] {
							break
						}
						end = i + 1 - from
					}
					want, n := elder[:0:0], 0
					for _, s := range elder {
						if n += len(cut(s)); n > end {
							break
						}
						want = append(want, s)
					}
					one := opened(t, a.disk, from, sectors, 1)
					one.has(t, want...)

					x := opened(t, a.disk.Twin(), from, sectors, 2).adds(t, "x")
					x.again(t).has(t, append([]string{newer}[:bit(whole)], "x")...)
					one.adds(t, "y", some(40, 5))
					one.again(t).has(t, append(want, "y", some(40, 5))...)
				})
			}
		}
	}
}

// Plays of a few epochs on one place: behind any Adds and crashes each epoch has a beginning of what it had when it was asked last, and perhaps what was broken off; all of it, if no other one wrote since.
func TestP105Plays(t *testing.T) {
	t.Parallel()
	for seed := range int64(200) {
		r := rand.New(rand.NewSource(seed))
		n := 2 + r.Intn(14)
		d := newDisk(t, n+2)
		had := map[uint64][]string{}
		broken := map[uint64]string{}
		var wrote uint64
		for range 50 {
			epoch := uint64(1 + r.Intn(3))
			l, e := log.Open(d, 1, n, epoch)
			if e != api.OK {
				t.Fatalf("Open is answered %d", e)
			}
			now, was := l.Records(), had[epoch]
			if s, is := broken[epoch]; is && len(now) > len(was) {
				was = append(was, s)
			}
			if len(now) > len(was) || !slices.Equal(now, was[:len(now)]) || wrote == epoch && len(now) < len(had[epoch]) {
				t.Fatalf("the epoch %d has %q, it had %q", epoch, now, was)
			}
			delete(broken, epoch)
			had[epoch] = now
			for range r.Intn(4) {
				record := some(r.Intn(80), r.Int63())
				if log.Parts(record) > l.Room() {
					break
				}
				wrote = epoch
				d.Fuse(r.Intn(12))
				if e := l.Add(record); e == api.OK {
					had[epoch] = append(had[epoch], record)
					continue
				}
				broken[epoch] = record
				break
			}
			keep := make([]int, r.Intn(6))
			for i := range keep {
				keep[i] = r.Intn(2)
			}
			d.Crash(keep)
		}
	}
}
