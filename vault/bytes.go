package vault

import (
	"math"

	"twinlock/api"
	"twinlock/omap"
	"twinlock/pack"
	"twinlock/parts"
	"twinlock/ring"
)

// What is sealed is about one of these, the head's about its open bytes, too.
const (
	aboutHead = "head"
	aboutBoot = "boot"
	aboutMap  = "map"
	aboutRow  = "row"
)

// maxPath is how many bytes a path has at most: a name, a slash, a key.
const maxPath = api.MaxMount + 1 + api.MaxKey

// spoilt is what disk.Look tells of a sector that is.
const spoilt = 2

// bit is 1, if it is so, else 0.
func bit(is bool) byte {
	if is {
		return 1
	}
	return 0
}

// metaBytes is a meta's numbers and mounts: of what a vault has these alone aren't sealed.
func metaBytes(m Meta) string {
	var o pack.Out
	o.Num(uint64(m.Role))
	o.Num(uint64(m.Seen))
	o.Num(uint64(m.Grant))
	o.Num(uint64(len(m.Mounts)))
	for _, x := range m.Mounts {
		o.Text(x.Name)
		o.Byte(bit(x.Ship))
	}
	return o.String()
}

// readMeta reads a meta's numbers and mounts.
func readMeta(s string) (m Meta, e api.Errno) {
	in := pack.Of(s)
	m.Role = in.Most(api.Fenced)
	m.Seen = in.Most(math.MaxInt)
	m.Grant = in.Most(math.MaxInt)
	for range in.Most(api.MaxMounts) {
		m.Mounts = append(m.Mounts, api.Mount{Name: in.Text(api.MaxMount), Ship: in.Byte() == bit(true)})
	}
	return m, in.End()
}

// restBytes is what the head has beside a meta's numbers and mounts.
func restBytes(m memory) string {
	var o pack.Out
	o.Text(m.meta.Secret)
	o.Num(uint64(m.from.at))
	o.Num(uint64(m.from.epoch))
	o.Num(uint64(m.key))
	o.Num(m.lot.number)
	o.Num(uint64(m.lot.side))
	return o.String()
}

// readRest reads what the head has beside a meta's numbers and mounts.
func readRest(m memory, s string) (memory, api.Errno) {
	in := pack.Of(s)
	m.meta.Secret = in.Text(maxSecret)
	m.from.at = in.Most(maxIndex)
	m.from.epoch = in.Most(api.MaxEpoch)
	m.key = in.Most(api.MaxRing)
	m.lot.number = in.Num()
	m.lot.side = in.Most(1)
	return m, in.End()
}

// readHead reads the head, which a ring must open: all but the map and the rows.
func readHead(text string, r *ring.Ring) (m memory, e api.Errno) {
	in := pack.Of(text)
	open, sealed := in.Text(api.MaxKept), in.Text(api.MaxKept)
	if e = in.End(); e != api.OK {
		return memory{}, e
	}
	rest, e := r.Open(sealed, aboutHead+open)
	if e != api.OK {
		return memory{}, e
	}
	if m.meta, e = readMeta(open); e != api.OK {
		return memory{}, e
	}
	return readRest(m, rest)
}

// bootBytes is how often a vault was opened.
func bootBytes(boot int) string {
	var o pack.Out
	o.Num(uint64(boot))
	return o.String()
}

// readBoot reads how often a vault was opened, out of what a sector is closed of; of a blank one it never was. One time more is to come, so that the greatest number is none.
func readBoot(body string, r *ring.Ring) (int, api.Errno) {
	sealed, is := parts.Text([]string{body}, 0, api.Sector)
	if !is {
		return 0, api.OK
	}
	text, e := r.Open(sealed, aboutBoot)
	if e != api.OK {
		return 0, e
	}
	in := pack.Of(text)
	boot := in.Most(math.MaxUint32 - 1)
	return boot, in.End()
}

// mapBytes is a map's pairs.
func mapBytes(m *omap.Map) string {
	var o pack.Out
	l := m.All()
	o.Num(uint64(len(l)))
	for _, x := range l {
		o.Text(x.Path)
		o.Text(x.Value)
	}
	return o.String()
}

// readMap reads a map's pairs.
func readMap(s string) (*omap.Map, api.Errno) {
	in := pack.Of(s)
	var l []api.Pair
	for range in.Most(api.MaxKeys) {
		l = append(l, api.Pair{Path: in.Text(maxPath), Value: in.Text(api.MaxValue)})
	}
	if e := in.End(); e != api.OK {
		return nil, e
	}
	return omap.Of(l)
}
