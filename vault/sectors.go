package vault

import (
	"strings"

	"twinlock/api"
	"twinlock/batch"
	"twinlock/disk"
	"twinlock/kept"
	"twinlock/log"
	"twinlock/omap"
	"twinlock/pack"
	"twinlock/parts"
	"twinlock/ring"
)

// How it lies on the disk: the head is kept from the sector 0 on; behind it stand a sector for the boot, which nobody but Open writes, so that it does no harm to a vault that was opened ahead; the rows, a log that has room for MaxRows batches of the greatest size; and two sides, of which each has room for a map's bytes.
const (
	headAt   = 0
	bootAt   = headAt + kept.Sectors
	rowsAt   = bootAt + 1
	rowsSize = MaxRows * rowSize
	sidesAt  = rowsAt + rowsSize
	sideSize = (Sectors - sidesAt) / 2
	// rowSize is how many sectors the greatest batch takes: its bytes are 291, and 51 more when they are sealed.
	rowSize = 11
)

// look is what all sectors of a vault's disk are closed of, if none is spoilt: also what doesn't count any more was written by a vault.
func look(d *disk.Disk) ([]string, api.Errno) {
	if d == nil {
		return nil, api.ErrNil
	}
	if d.Down() {
		return nil, api.ErrDown
	}
	if d.Sectors() < Sectors {
		return nil, api.ErrArg
	}
	return parts.Read(d, 0, Sectors)
}

// find takes what there is on the disk into memory. By which keys it was sealed is told by the head alone, so a ring of all keys opens it.
func (v *Vault) find(boot, master string) api.Errno {
	r, e := ring.New(master, api.MaxRing, 0)
	if e != api.OK {
		return e
	}
	if v.head, e = kept.Open(v.disk, headAt); e != api.OK {
		return e
	}
	m, e := v.stand(r)
	if e != api.OK {
		return e
	}
	if m.boot, e = readBoot(boot, r); e != api.OK {
		return e
	}
	if m.pairs, e = v.base(m.lot, r); e != api.OK {
		return e
	}
	v.memory, v.log, e = v.replay(m, r)
	return e
}

// start counts that the vault was opened, and makes the ring that seals from now on.
func (v *Vault) start(master string) (e api.Errno) {
	v.boot++
	if v.ring, e = ring.New(master, v.key, uint32(v.boot)); e != api.OK {
		return e
	}
	sealed, e := v.ring.Wrap(aboutBoot, bootBytes(v.boot))
	if e != api.OK {
		return e
	}
	return parts.Write(v.disk, bootAt, parts.Bodies(sealed))
}

// stand is what the head tells. None was put as long as nothing but batches was done to a new vault.
func (v *Vault) stand(r *ring.Ring) (memory, api.Errno) {
	text, is := v.head.Get()
	if !is {
		return memory{lot: lot{number: firstLot}}, api.OK
	}
	return readHead(text, r)
}

// base is the map that stands on a lot's side. Of the first lot there is none: a new vault's map is empty.
func (v *Vault) base(n lot, r *ring.Ring) (*omap.Map, api.Errno) {
	if n.number == firstLot {
		return omap.New(), api.OK
	}
	l, e := log.Open(v.disk, n.from(), sideSize, n.number)
	if e != api.OK {
		return nil, e
	}
	text, e := r.Open(strings.Join(l.Records(), ""), aboutMap)
	if e != api.OK {
		return nil, e
	}
	return readMap(text)
}

// replay does the batches of the rows to what there is ahead of them.
func (v *Vault) replay(m memory, r *ring.Ring) (memory, *log.Log, api.Errno) {
	l, e := log.Open(v.disk, rowsAt, rowsSize, m.lot.number)
	if e != api.OK {
		return memory{}, nil, e
	}
	for _, sealed := range l.Records() {
		text, e := r.Open(sealed, aboutRow)
		if e != api.OK {
			return memory{}, nil, e
		}
		b, e := batch.Read(text)
		if e != api.OK {
			return memory{}, nil, e
		}
		if m, e = m.with(b); e != api.OK {
			return memory{}, nil, e
		}
	}
	return m, l, api.OK
}

// put puts the head. It alone says which lot counts, so that all of a call is there from then on, and nothing of it ahead.
func (v *Vault) put(m memory) api.Errno {
	open := metaBytes(m.meta)
	sealed, e := v.ring.Wrap(aboutHead+open, restBytes(m))
	if e != api.OK {
		return e
	}
	var o pack.Out
	o.Text(open)
	o.Text(sealed)
	return v.head.Put(o.String())
}

// heal writes over the spoilt ones of sectors in which nothing counts any more.
func (v *Vault) heal(from, sectors int) api.Errno {
	for i := from; i < from+sectors; i++ {
		s, e := v.disk.Read(i)
		if e != api.OK {
			return e
		}
		if _, state := disk.Look(s); state != spoilt {
			continue
		}
		if e := v.disk.Write(i, strings.Repeat("\x00", api.Sector)); e != api.OK {
			return e
		}
	}
	return v.disk.Sync()
}

// begin is the log of a lot in sectors in which nothing counts any more. A log bars itself where a sector is spoilt, but of what goes on in an open vault that is no error.
func (v *Vault) begin(from, sectors int, n lot) (*log.Log, api.Errno) {
	l, e := log.Open(v.disk, from, sectors, n.number)
	if e != api.ErrSum {
		return l, e
	}
	if e := v.heal(from, sectors); e != api.OK {
		return nil, e
	}
	return log.Open(v.disk, from, sectors, n.number)
}

// lay lets the map stand on its lot's side, in as many records as it takes.
func (v *Vault) lay(m memory) api.Errno {
	l, e := v.begin(m.lot.from(), sideSize, m.lot)
	if e != api.OK {
		return e
	}
	sealed, e := v.ring.Wrap(aboutMap, mapBytes(m.pairs))
	if e != api.OK {
		return e
	}
	for at := 0; at < len(sealed); at += api.MaxRecord {
		if e := l.Add(sealed[at:min(at+api.MaxRecord, len(sealed))]); e != api.OK {
			return e
		}
	}
	return api.OK
}

// turn goes on to another lot, and tells its rows' log. The rows of the elder lot are written over only behind the head.
func (v *Vault) turn(m memory) (*log.Log, api.Errno) {
	if e := v.lay(m); e != api.OK {
		return nil, e
	}
	if e := v.put(m); e != api.OK {
		return nil, e
	}
	return v.begin(rowsAt, rowsSize, m.lot)
}

// add adds a batch to the rows.
func (v *Vault) add(l *log.Log, b api.Batch) api.Errno {
	text, e := batch.Bytes(b)
	if e != api.OK {
		return e
	}
	sealed, e := v.ring.Wrap(aboutRow, text)
	if e != api.OK {
		return e
	}
	return l.Add(sealed)
}
