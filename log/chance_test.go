package log_test

import (
	"math"
	"math/rand"
	"testing"

	"twinlock/api"
	"twinlock/disk"
)

// play is a disk, some logs' places on it, which may lie over one another, and those that are open, of which each place may have more than one.
type play struct {
	disk   *disk.Disk
	places [][2]int
	open   []*asked
}

// length is a record's, drawn by chance: most are short.
func length(r *rand.Rand) int {
	switch r.Intn(6) {
	case 0:
		return r.Intn(most + 3)
	case 1:
		return max(0, piece*r.Intn(6)+r.Intn(3)-1)
	}
	return r.Intn(70)
}

// drawn is a record's parts' sectors, or nearly.
func drawn(r *rand.Rand) []string {
	h := head{uint64(1 + r.Intn(3)), uint64(r.Intn(12)), uint64(r.Intn(5))}
	if r.Intn(20) == 0 {
		h.salt = math.MaxUint64 - uint64(r.Intn(4))
	}
	l := partsOf(some(min(length(r), most), r.Int63()), h)
	p := &l[r.Intn(len(l))]
	switch r.Intn(16) {
	case 0:
		p.number = byte(r.Intn(34))
	case 1:
		p.count = byte(r.Intn(34))
	case 2:
		p.length = byte(r.Intn(34))
	case 3:
		p.nought = byte(r.Intn(2))
	case 4:
		p.epoch = uint64(r.Intn(4))
	case 5:
		p.salt = uint64(r.Intn(12))
	case 6:
		p.ahead = uint64(r.Intn(5))
	}
	return sectorsOf(l)
}

// lay writes by hand a record's sectors, right or wrong, or a blank one, at any place; they may be synced or not.
func (p *play) lay(r *rand.Rand) {
	p.disk.Fuse(-1)
	place := p.places[r.Intn(len(p.places))]
	at := place[0]
	if r.Intn(2) == 0 {
		at += r.Intn(place[1])
	}
	l := drawn(r)
	if r.Intn(4) == 0 {
		l = []string{noughts}
	}
	for i, s := range l {
		p.disk.Write(at+i, s)
	}
	if r.Intn(2) == 0 {
		p.disk.Sync()
	}
}

// crash keeps anything.
func (p *play) crash(r *rand.Rand) {
	keep := make([]int, r.Intn(40))
	for i := range keep {
		keep[i] = r.Intn(9) - 4
	}
	p.disk.Crash(keep)
}

// again opens a place once more; one that is spoilt is made blank.
func (p *play) again(t *testing.T, r *rand.Rand) {
	t.Helper()
	place := p.places[r.Intn(len(p.places))]
	a, e := open(t, p.disk, place[0], place[1], uint64(1+r.Intn(3)))
	switch {
	case e == api.OK && len(p.open) < 5:
		p.open = append(p.open, a)
	case e == api.OK:
		p.open[r.Intn(5)] = a
	case e == api.ErrSum:
		p.disk.Fuse(-1)
		for i := range place[1] {
			p.disk.Write(place[0]+i, noughts)
		}
	}
}

// anything asks one thing, drawn by chance, right or wrong.
func (p *play) anything(t *testing.T, r *rand.Rand) {
	t.Helper()
	n := p.disk.Sectors()
	switch k := r.Intn(40); {
	case k < 8:
		p.again(t, r)
	case k < 11:
		p.crash(r)
	case k < 13:
		p.disk.Fuse(r.Intn(24) - 1)
	case k < 17:
		p.lay(r)
	case k < 18:
		p.disk.Spoil(r.Intn(n), r.Intn(60), some(r.Intn(5), r.Int63()))
	case k < 20:
		open(t, p.disk, r.Intn(n+4)-2, r.Intn(n+4)-2, uint64(r.Intn(4)))
	case len(p.open) > 0:
		p.open[r.Intn(len(p.open))].add(t, some(length(r), r.Int63()))
	}
	for _, a := range p.open {
		a.tells(t)
	}
}

// Logs asked by chance, on disks that are written by hand, spoilt and crash.
func TestP106Chance(t *testing.T) {
	t.Parallel()
	for seed := range int64(100) {
		r := rand.New(rand.NewSource(seed))
		n := 10 + r.Intn(70)
		half := n/2 - r.Intn(3)
		p := &play{disk: newDisk(t, n), places: [][2]int{{0, half}, {half, n - half}, {n / 4, n / 2}}}
		for range 300 {
			p.anything(t, r)
		}
	}
}
