package vault

import (
	"slices"
	"strings"

	"twinlock/api"
	"twinlock/batch"
	"twinlock/omap"
)

const (
	// maxIndex is the greatest Index of a batch, so of a place.
	maxIndex = 1 << 62
	// maxSecret is how many bytes a meta's Secret has at most.
	maxSecret = 64
)

// place is an Index and its Epoch.
type place struct{ at, epoch int }

// right says whether a vault may have a place.
func (p place) right() bool {
	return p == place{} || p.at >= 1 && p.at <= maxIndex && p.epoch >= 1
}

// lot is a map that stands on one of the two sides, and the rows behind it. Its number is that of the logs in which these stand.
type lot struct {
	number uint64
	side   int
}

// firstLot is the number of a new vault's lot.
const firstLot = 1

// from is the first sector of a lot's side.
func (n lot) from() int { return sidesAt + n.side*sideSize }

// next is the lot behind this one, on the other side. No number may come twice, or what a broken call left there would be taken for the next one's: behind such a call there is a greater boot, and all its numbers are above those of elder ones.
func (n lot) next(boot int) lot {
	return lot{number: max(n.number, uint64(boot)<<32) + 1, side: 1 - n.side}
}

// memory is what a vault has in memory. What it points to is never changed once it is a vault's: what is done puts another one in its place, so that a call that comes to an error leaves all as it was.
type memory struct {
	meta Meta
	// from is the place ahead of the rows, pairs the map behind them.
	from      place
	rows      []api.Batch
	pairs     *omap.Map
	key, boot int
	lot       lot
}

// place is the one behind the rows.
func (m memory) place() place {
	if len(m.rows) == 0 {
		return m.from
	}
	last := m.rows[len(m.rows)-1]
	return place{last.Index, last.Epoch}
}

// with is what there is when a batch is done, if it may be.
func (m memory) with(b api.Batch) (memory, api.Errno) {
	if e := batch.Right(b); e != api.OK {
		return memory{}, e
	}
	if p := m.place(); b.Index != p.at+1 || b.Epoch < p.epoch {
		return memory{}, api.ErrArg
	}
	pairs := m.pairs.Twin()
	if e := pairs.Do(b.Ops); e != api.OK {
		return memory{}, e
	}
	m.pairs, m.rows = pairs, append(slices.Clip(m.rows), ownBatch(b))
	return m, api.OK
}

// short is what there is in the next lot, when the rows are forgotten.
func (m memory) short() memory {
	m.from, m.rows, m.lot = m.place(), nil, m.lot.next(m.boot)
	return m
}

// ownMeta is a meta with memory of its own.
func ownMeta(m Meta) Meta {
	var l []api.Mount
	for _, x := range m.Mounts {
		l = append(l, api.Mount{Name: strings.Clone(x.Name), Ship: x.Ship})
	}
	m.Mounts, m.Secret = l, strings.Clone(m.Secret)
	return m
}

// ownBatch is a batch with memory of its own.
func ownBatch(b api.Batch) api.Batch {
	var l []api.Op
	for _, o := range b.Ops {
		l = append(l, api.Op{Kind: o.Kind, Path: strings.Clone(o.Path), Value: strings.Clone(o.Value)})
	}
	b.Ops = l
	return b
}
