package vault_test

import (
	"math"
	"math/rand"
	"strconv"
	"testing"

	"twinlock/api"
	"twinlock/vault"
)

// play is a vault that is asked by chance.
type play struct {
	*asked
	r *rand.Rand
}

// path is any path, most often one of few; sometimes none.
func (p *play) path() string {
	switch k := p.r.Intn(60); {
	case k == 0:
		return some(p.r.Intn(40), p.r.Int())
	case k < 12:
		return longest(p.r.Intn(60))
	}
	return []string{"app", "ops", "m"}[p.r.Intn(3)] + "/k" + strconv.Itoa(p.r.Intn(22))
}

// value is any value, seldom one that is too long.
func (p *play) value() string {
	if p.r.Intn(80) == 0 {
		return some(33, p.r.Int())
	}
	return some(p.r.Intn(33), p.r.Int())
}

// ops are operations, most often such as may be.
func (p *play) ops() (l []api.Op) {
	for range p.r.Intn(5) {
		switch k := p.r.Intn(100); {
		case k < 2:
			l = append(l, api.Op{Kind: uint8(p.r.Intn(5)), Path: p.path(), Value: p.value()})
		case k < 45:
			l = append(l, del(p.path()))
		default:
			l = append(l, put(p.path(), p.value()))
		}
	}
	if p.r.Intn(50) == 0 {
		l = append(l, l...)
	}
	return l
}

// batch is the next batch, most often.
func (p *play) batch() api.Batch {
	b := p.told.next(p.ops()...)
	switch p.r.Intn(30) {
	case 0:
		b.Index += p.r.Intn(5) - 2
	case 1:
		b.Epoch = p.r.Intn(4) - 1
	case 2, 3, 4:
		b.Epoch = max(b.Epoch, b.Epoch+p.r.Intn(3))
	case 5:
		if p.r.Intn(9) == 0 {
			b.Epoch = math.MaxInt
		}
	}
	return b
}

// meta is any meta, seldom one that isn't right.
func (p *play) meta() vault.Meta {
	if p.r.Intn(9) == 0 {
		return wrongs()[p.r.Intn(len(wrongs()))]
	}
	m := metas()[p.r.Intn(len(metas()))]
	m.Role, m.Seen = p.r.Intn(4), p.r.Intn(1<<p.r.Intn(62))
	m.Secret = some(p.r.Intn(65), p.r.Int())
	return m
}

// pairs are any, most often such as may be.
func (p *play) pairs() (l []api.Pair) {
	l = most(p.r.Intn(30))
	if p.r.Intn(6) == 0 {
		l = most(46 + p.r.Intn(4))
	}
	if p.r.Intn(12) == 0 {
		l = append(l, api.Pair{Path: p.path(), Value: p.value()})
	}
	p.r.Shuffle(len(l), func(i, k int) { l[i], l[k] = l[k], l[i] })
	return l
}

// call is any call.
func (p *play) call() call {
	switch k := p.r.Intn(40); {
	case k < 28:
		return committing(p.batch())
	case k < 33:
		return setting(p.meta())
	case k < 35:
		at := p.r.Intn(4) - 1
		if p.r.Intn(3) == 0 {
			at = maxIndex - p.r.Intn(40) + 3
		}
		return installing(p.meta(), p.pairs(), at, p.r.Intn(5)-1+bit(at > 3))
	}
	return rotating()
}

// does asks a call, with a fuse that may end in it; behind a crash it opens the disk again, now and then while the power goes again and again.
func (p *play) does(t *testing.T) {
	t.Helper()
	c := p.call()
	may := mayBe(p.told, c)
	if p.r.Intn(4) == 0 {
		p.disk.Fuse(p.r.Intn(8) * (1 + p.r.Intn(2)*p.r.Intn(20)))
	}
	e := c.do(p.v)
	if e != api.ErrDown {
		is(t, e, c.told(p.told))
		p.tells(t)
		p.disk.Fuse(-1)
		return
	}
	p.tells(t)
	if p.r.Intn(9) == 0 {
		told := p.told.twin()
		p.dead(t)
		p.told = told
	}
	keep := make([]int, p.r.Intn(40))
	for i := range keep {
		keep[i] = (p.r.Intn(7) - 3) * p.r.Intn(2)
	}
	p.disk.Crash(keep)
	p.asked = shaken(t, p.disk, p.master, may, p.r)
}

// Vaults asked by chance, with crashes between, held against the reckoning: the map, the place, the batches, Prev, the meta, the key and the boot.
func TestP175Chance(t *testing.T) {
	t.Parallel()
	for seed := range int64(120) {
		p := &play{fresh(t), rand.New(rand.NewSource(seed))}
		for range 150 {
			p.does(t)
			switch p.r.Intn(25) {
			case 0:
				p.asked = p.again(t)
			case 1:
				p.lasts(t)
			}
		}
		p.lasts(t)
	}
}
