package kept_test

import (
	"math"
	"math/rand"
	"testing"

	"twinlock/api"
)

// play is two records' places side by side on one disk, and those that stand on them, of which each may be opened more than once.
type play struct {
	disks *both
	from  [2]int
	open  []*asked
}

// drawn is a sound sector, of a record's part or nearly.
func drawn(r *rand.Rand) string {
	l := partsOf(some(r.Intn(most+1), r.Int63()), uint64(r.Intn(12)))
	p := l[r.Intn(len(l))]
	switch r.Intn(8) {
	case 0:
		p.number = byte(r.Intn(11))
	case 1:
		p.count = byte(r.Intn(11))
	case 2:
		p.length = byte(r.Intn(50))
	case 3:
		p.nought = byte(r.Intn(2))
	case 4:
		p.gen = math.MaxUint64 - uint64(r.Intn(30))
	}
	return p.sector()
}

// lay writes by hand: one sector, or all of a record's, into either slot; it may be synced or not.
func (p *play) lay(t *testing.T, r *rand.Rand) {
	t.Helper()
	b := p.disks
	if b.asked.Down() {
		return
	}
	b.fuse(-1)
	from := p.from[r.Intn(2)]
	switch r.Intn(4) {
	case 0:
		b.write(t, from+r.Intn(sectors), drawn(r))
	case 1:
		b.write(t, r.Intn(b.asked.Sectors()), noughts)
	default:
		l := sectorsOf(partsOf(some(r.Intn(most+1), r.Int63()), uint64(1+r.Intn(20))))
		b.write(t, from+r.Intn(2)*slotSize, l[:max(1, len(l)-r.Intn(2)*r.Intn(3))]...)
	}
	if r.Intn(2) == 0 {
		b.sync(t)
	}
}

// crash keeps anything.
func (p *play) crash(t *testing.T, r *rand.Rand) {
	t.Helper()
	keep := make([]int, r.Intn(30))
	for i := range keep {
		keep[i] = r.Intn(9) - 4
	}
	p.disks.crash(t, keep...)
}

// again opens a place once more; a place that is spoilt is made blank.
func (p *play) again(t *testing.T, r *rand.Rand) {
	t.Helper()
	from := p.from[r.Intn(2)]
	a, e := p.disks.open(t, from)
	switch {
	case e == api.OK && len(p.open) < 5:
		p.open = append(p.open, a)
	case e == api.OK:
		p.open[r.Intn(5)] = a
	case e == api.ErrSum:
		p.disks.fuse(-1)
		for i := range sectors {
			p.disks.write(t, from+i, noughts)
		}
	}
}

// anything asks one thing, drawn by chance, right or wrong.
func (p *play) anything(t *testing.T, r *rand.Rand) {
	t.Helper()
	switch k := r.Intn(40); {
	case k < 8:
		p.again(t, r)
	case k < 11:
		p.crash(t, r)
	case k < 13:
		p.disks.fuse(r.Intn(24) - 1)
	case k < 17:
		p.lay(t, r)
	case k < 18:
		p.disks.spoil(t, r.Intn(p.disks.asked.Sectors()), r.Intn(60), some(r.Intn(5), r.Int63()))
	case k < 20:
		p.disks.open(t, r.Intn(p.disks.asked.Sectors()+4)-2)
	case len(p.open) > 0:
		p.open[r.Intn(len(p.open))].put(t, some(r.Intn(most+3), r.Int63()))
	}
	for _, a := range p.open {
		a.get(t)
	}
}

// Records asked by chance, on disks that are written by hand, spoilt and crash.
func TestP95Chance(t *testing.T) {
	t.Parallel()
	for seed := range int64(100) {
		r := rand.New(rand.NewSource(seed))
		p := &play{disks: newDisk(t, 2*sectors+r.Intn(5))}
		p.from = [2]int{0, p.disks.asked.Sectors() - sectors}
		for range 300 {
			p.anything(t, r)
		}
	}
}
