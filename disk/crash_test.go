package disk_test

import (
	"fmt"
	"math/rand"
	"slices"
	"testing"

	"twinlock/api"
)

// waiting is a disk for whose sectors so many writes wait, over what lasts.
func waiting(t *testing.T, counts ...int) *asked {
	t.Helper()
	a := start(t, len(counts))
	for i := range counts {
		a.writes(t, i, some(size, int64(1000*i)))
	}
	a.synced(t)
	for i, n := range counts {
		for k := range n {
			a.writes(t, i, some(size, int64(1000*i+k+1)))
		}
	}
	return a
}

// is asks that a sector is the choice c of its writes, from 0 on.
func (a *asked) is(t *testing.T, i, c int) {
	t.Helper()
	if b, e := a.disk.Read(i); b != some(size, int64(1000*i+c)) || e != api.OK {
		t.Fatalf("sector %d isn't its write %d: %d, %x", i, c, e, b)
	}
}

// Each choice of one sector's writes, within and beyond n, with the power on and off.
func TestP73Choices(t *testing.T) {
	for n := range 7 {
		for _, c := range choices {
			for _, off := range []bool{false, true} {
				a := waiting(t, n)
				if off {
					a.blow(t)
				}
				a.crash(t, c)
				a.is(t, 0, modulo(c, n))
				a.holds(t)
			}
		}
	}
}

// What choices mean, told by hand.
func TestP73ByHand(t *testing.T) {
	for _, x := range []struct{ n, choice, want int }{
		{0, 0, 0}, {0, 1, 0}, {0, -1, 0},
		{1, 0, 0}, {1, 1, 1}, {1, 2, 0}, {1, 3, 1}, {1, -1, 1}, {1, -2, 0},
		{2, 2, 2}, {2, 3, 0}, {2, 4, 1}, {2, -1, 2}, {2, -2, 1}, {2, -3, 0}, {2, -4, 2},
		{4, 4, 4}, {4, 5, 0}, {4, 9, 4}, {4, -5, 0}, {4, -6, 4},
		{4, 1<<63 - 1, 2}, {4, -1 << 63, 2}, {2, -1 << 63, 1}, {2, 1<<63 - 1, 1},
	} {
		a := waiting(t, x.n)
		a.crash(t, x.choice)
		a.is(t, 0, x.want)
	}
}

// None kept: what lasted lasts.
func TestP73None(t *testing.T) {
	for _, keep := range [][]int{nil, {}, {0}, {0, 0, 0, 0, 0}} {
		for _, off := range []bool{false, true} {
			a := waiting(t, 2, 0, 3, 1)
			if off {
				a.blow(t)
			}
			a.crash(t, keep...)
			for i := range 4 {
				a.is(t, i, 0)
			}
		}
	}
}

// Choices are for the sectors for which writes wait, rising, and for no others; however the writes came, and whichever sectors they are.
func TestP73Rising(t *testing.T) {
	for seed := range int64(50) {
		a := start(t, 32)
		r := rand.New(rand.NewSource(seed))
		row := r.Perm(32)[:1+r.Intn(31)]
		for _, i := range row {
			a.writes(t, i, some(size, int64(1000*i+1)), some(size, int64(1000*i+2)))
		}
		for _, i := range row[:len(row)/2] {
			a.writes(t, i, some(size, int64(1000*i+3)))
		}
		var keep []int
		for range row {
			keep = append(keep, 1+r.Intn(2))
		}
		a.crash(t, keep...)
		slices.Sort(row)
		for k, i := range row {
			a.is(t, i, keep[k])
		}
	}
}

// The first and the last sector of a great disk.
func TestP73Great(t *testing.T) {
	for _, n := range []int{2, 500, maxDisk} {
		a := start(t, n)
		a.writes(t, n-1, sA, sB)
		a.writes(t, 0, sC)
		a.crash(t, 1, 2)
		if b, _ := a.disk.Read(0); b != sC {
			t.Errorf("the first sector of %d: %x", n, b)
		}
		if b, _ := a.disk.Read(n - 1); b != sB {
			t.Errorf("the last sector of %d: %x", n, b)
		}
	}
	a := start(t, maxDisk)
	var keep []int
	for i := range maxDisk {
		for c := range 2 {
			if e := a.disk.Write(i, some(size, int64(1000*i+c+1))); e != api.OK {
				t.Fatalf("Write to %d is answered %d", i, e)
			}
		}
		keep = append(keep, 1+i%2)
	}
	a.disk.Crash(keep)
	for i := range maxDisk {
		a.is(t, i, 1+i%2)
	}
}

// A list that is too short keeps nothing behind its end; one that is too long says no more.
func TestP73Lists(t *testing.T) {
	for length := range 9 {
		a := waiting(t, 2, 2, 0, 2, 2)
		a.crash(t, slices.Repeat([]int{2}, length)...)
		for k, i := range []int{0, 1, 3, 4} {
			want := 0
			if k < length {
				want = 2
			}
			a.is(t, i, want)
		}
		a.is(t, 2, 0)
	}
	a := waiting(t, 1, 1)
	a.crash(t, slices.Repeat([]int{1}, 1<<16)...)
	a.is(t, 0, 1)
	a.is(t, 1, 1)
}

// The list is neither changed nor kept, nor is its spare room.
func TestP73ListKept(t *testing.T) {
	for length := range 7 {
		a := waiting(t, 2, 2, 2, 2)
		room := []int{1, 2, -1, 5, 7, 8, 9, 10}
		was := slices.Clone(room)
		keep := room[:length]
		a.crash(t, keep...)
		if !slices.Equal(room, was) {
			t.Errorf("the list is %v", room)
		}
		clear(room)
		a.holds(t)
		a.writes(t, 0, sA)
		a.crash(t, 1)
	}
}

// Behind a crash nothing waits, the power is on, there is no fuse, whether it burnt or not.
func TestP73Behind(t *testing.T) {
	for _, n := range []int{-1, 0, 1, 2, 5} {
		for acts := range 4 {
			a := waiting(t, 1, 2)
			a.fuse(t, n)
			for range acts {
				a.sync(t)
			}
			a.crash(t, 1, 1)
			for range 20 {
				a.writes(t, 0, sA)
				a.synced(t)
			}
		}
	}
	a := start(t, 2)
	a.blow(t)
	a.fuse(t, 3)
	a.crash(t)
	for range 20 {
		a.writes(t, 0, sA)
	}
}

// A crash of nothing, one behind another.
func TestP73Again(t *testing.T) {
	a := waiting(t, 2, 1)
	a.crash(t, 2, 1)
	for range 3 {
		a.crash(t, 1, 1)
		a.crash(t)
		a.is(t, 0, 2)
		a.is(t, 1, 1)
	}
	b := start(t, 2)
	b.crash(t, 1, 1)
	b.holds(t)
}

// However choices are drawn, each sector is what lasted, or one of its writes since the last Sync, whole; what was synced is there till it is written again; with all choices 0 it is what was synced last.
func TestP76Drawn(t *testing.T) {
	for seed := range int64(150) {
		r := rand.New(rand.NewSource(seed))
		n := 1 + r.Intn(8)
		a := start(t, n)
		// may is what each sector may be behind a crash: what lasted stands first.
		may := make([][]string, n)
		for i := range may {
			may[i] = []string{noughts}
		}
		for range 60 {
			switch x := r.Intn(12); {
			case x < 8:
				i, b := r.Intn(n), some(size, r.Int63())
				a.writes(t, i, b)
				may[i] = append(may[i], b)
			case x < 9:
				a.synced(t)
				for i := range may {
					may[i] = may[i][len(may[i])-1:]
				}
			case x < 11:
				crashed(t, a.twin(t), nil, may)
			default:
				var keep []int
				for range n + 1 {
					keep = append(keep, int(r.Uint64()))
				}
				if r.Intn(2) == 0 {
					a.blow(t)
				}
				for i, b := range crashed(t, a, keep, may) {
					may[i] = []string{b}
				}
			}
		}
	}
}

// crashed crashes a disk, asks that each sector is one that it may be (what lasted, if none is kept), and tells what they are.
func crashed(t *testing.T, a *asked, keep []int, may [][]string) (l []string) {
	t.Helper()
	a.crash(t, keep...)
	for i := range may {
		b, e := a.disk.Read(i)
		if e != api.OK || !slices.Contains(may[i], b) || keep == nil && b != may[i][0] {
			t.Fatalf("sector %d behind a crash: %d, %x", i, e, b)
		}
		l = append(l, b)
	}
	return l
}

// Two sectors' writes come in either order: any choice of the one goes with any of the other.
func TestP76Either(t *testing.T) {
	seen := map[string]bool{}
	for n := range 4 {
		for m := range 4 {
			a := waiting(t, n, m)
			for c := range n + 1 {
				for d := range m + 1 {
					b := a.twin(t)
					b.crash(t, keepOf(n, c, m, d)...)
					b.is(t, 0, c)
					b.is(t, 1, d)
					seen[fmt.Sprint(n, m, c, d)] = true
				}
			}
		}
	}
	if len(seen) != 10*10 {
		t.Errorf("%d crashes", len(seen))
	}
}

// keepOf is the list for two sectors of which none, one or both have writes that wait.
func keepOf(n, c, m, d int) (l []int) {
	if n > 0 {
		l = append(l, c)
	}
	if m > 0 {
		l = append(l, d)
	}
	return l
}

// The newer write lasts without the elder one of another sector, and the elder without the newer.
func TestP76Order(t *testing.T) {
	for i := range 2 {
		a := start(t, 2)
		a.writes(t, i, sA)
		a.writes(t, 1-i, sB)
		b := a.twin(t)
		b.crash(t, 0, 1)
		a.crash(t, 1, 0)
		for _, x := range []struct {
			b     *asked
			whole int
		}{{a, 0}, {b, 1}} {
			want := []string{sA, sB}[(i+x.whole)%2]
			if s, _ := x.b.disk.Read(x.whole); s != want {
				t.Errorf("sector %d is %x", x.whole, s)
			}
			if s, _ := x.b.disk.Read(1 - x.whole); s != noughts {
				t.Errorf("sector %d is %x", 1-x.whole, s)
			}
		}
	}
}

// What was synced is there behind every crash, also of what was written elsewhere, and of a write of it that was broken off.
func TestP76Synced(t *testing.T) {
	for seed := range int64(40) {
		r := rand.New(rand.NewSource(seed))
		a := start(t, 4)
		a.writes(t, 1, sC, sA)
		a.synced(t)
		for range 20 {
			for range r.Intn(4) {
				a.writes(t, []int{0, 2, 3}[r.Intn(3)], some(size, r.Int63()))
			}
			if r.Intn(2) == 0 {
				a.fuse(t, 0)
				a.refused(t, 1, sB, api.ErrDown)
			}
			a.crash(t, int(r.Uint64()), int(r.Uint64()), int(r.Uint64()), int(r.Uint64()))
			if b, e := a.disk.Read(1); b != sA || e != api.OK {
				t.Fatalf("what was synced is %d, %x", e, b)
			}
		}
	}
}

// All of it, asked by chance, goes as the chapter tells.
func TestP76Chance(t *testing.T) {
	for seed := range int64(200) {
		r := rand.New(rand.NewSource(seed))
		a := start(t, 1+r.Intn(9))
		for range 150 {
			anything(t, a, r)
		}
		a.holds(t)
	}
}
