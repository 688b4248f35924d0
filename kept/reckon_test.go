package kept_test

import (
	"encoding/binary"
	"hash/crc32"
	"math"
	"math/rand"
	"slices"
	"strings"
	"testing"
	"unsafe"

	"twinlock/api"
	"twinlock/disk"
	"twinlock/kept"
)

// These numbers are the document's: a sector's bytes and a body's, a place's sectors and a slot's, a record's most bytes and a part's.
const (
	size     = 64
	bodySize = 60
	sectors  = 20
	slotSize = 10
	most     = 400
	piece    = 48
)

// closedOf is the sector that is closed of a body.
func closedOf(body string) string {
	return body + string(binary.LittleEndian.AppendUint32(nil, crc32.ChecksumIEEE([]byte(body))))
}

// isSound says whether a sector is closed of its body.
func isSound(s string) bool { return len(s) == size && s == closedOf(s[:bodySize]) }

// part is what a part's sector is closed of, right or wrong; its bytes may be more than a part's.
type part struct {
	gen                           uint64
	number, count, length, nought byte
	bytes                         string
}

// sector is a part's sector.
func (p part) sector() string {
	b := binary.LittleEndian.AppendUint64(nil, p.gen)
	b = append(b, p.number, p.count, p.length, p.nought)
	b = append(b, p.bytes...)
	return closedOf(string(append(b, make([]byte, bodySize-len(b))...)))
}

// cut is a text's parts.
func cut(text string) (l []string) {
	for len(text) > piece {
		l, text = append(l, text[:piece]), text[piece:]
	}
	return append(l, text)
}

// partsOf is what the sectors of a text's parts are closed of.
func partsOf(text string, gen uint64) (l []part) {
	pieces := cut(text)
	for i, s := range pieces {
		l = append(l, part{gen: gen, number: byte(i), count: byte(len(pieces)), length: byte(len(s)), bytes: s})
	}
	return l
}

// sectorsOf are the sectors of parts.
func sectorsOf(parts []part) (l []string) {
	for _, p := range parts {
		l = append(l, p.sector())
	}
	return l
}

// genOf is the generation in a sector, sound or not.
func genOf(s string) uint64 { return binary.LittleEndian.Uint64([]byte(s[:8])) }

// heldBy is what a slot holds: of all lengths that a record may have the one whose parts' sectors stand there; the generation is 0, if there is none.
func heldBy(slot []string) (string, uint64) {
	gen := genOf(slot[0])
	for n := range most + 1 {
		count := 1
		for count*piece < n {
			count++
		}
		// Others than these can't be; asking them all takes long.
		if gen == 0 || slot[0][9] != byte(count) {
			continue
		}
		var b strings.Builder
		for _, s := range slot[:count] {
			b.WriteString(s[12:bodySize])
		}
		text := b.String()[:n]
		if slices.Equal(slot[:count], sectorsOf(partsOf(text, gen))) {
			return text, gen
		}
	}
	return "", 0
}

// both is a disk that is asked, and another one that is to stand as it does; fused is whether a fuse was ever set.
type both struct {
	asked, told *disk.Disk
	fused       bool
}

// newDisk is a disk and another one like it.
func newDisk(t *testing.T, n int) *both {
	t.Helper()
	d, e := disk.New(n)
	if e != api.OK {
		t.Fatalf("New of %d: %d", n, e)
	}
	return &both{asked: d, told: d.Twin()}
}

// lasting is what lasts in a disk's sectors behind a crash of one choice.
func lasting(d *disk.Disk, choice int) (l []string) {
	d = d.Twin()
	d.Crash(slices.Repeat([]int{choice}, d.Sectors()))
	for i := range d.Sectors() {
		s, _ := d.Read(i)
		l = append(l, s)
	}
	return l
}

// seen is how a disk's sectors are read.
func seen(d *disk.Disk) (l []string) {
	for i := range d.Sectors() {
		s, _ := d.Read(i)
		l = append(l, s)
	}
	return l
}

// left is how many acts more are done, to some bound.
func left(d *disk.Disk) int {
	d = d.Twin()
	for n := range sectors {
		if d.Sync() != api.OK {
			return n
		}
	}
	return sectors
}

// same asks whether the two disks stand alike: what is read, what lasts, what waits (to four writes a sector), the power, the fuse.
func (b *both) same(t *testing.T) {
	t.Helper()
	if n, m := b.asked.Waits(), b.told.Waits(); n != m {
		t.Fatalf("%d writes wait, not %d", n, m)
	}
	if b.asked.Down() != b.told.Down() {
		t.Fatalf("Down is %v, not %v", b.asked.Down(), b.told.Down())
	}
	if b.fused && left(b.asked) != left(b.told) {
		t.Fatalf("%d acts are left, not %d", left(b.asked), left(b.told))
	}
	for i := range b.told.Sectors() {
		s, _ := b.asked.Read(i)
		if want, _ := b.told.Read(i); s != want {
			t.Fatalf("the sector %d is %x, not %x", i, s, want)
		}
	}
	if b.asked.Waits() == 0 && !b.asked.Down() {
		return
	}
	for c := range 5 {
		if l, m := lasting(b.asked, c), lasting(b.told, c); !slices.Equal(l, m) {
			t.Fatalf("behind a crash that chooses %d, there is\n%x\nnot\n%x", c, l, m)
		}
	}
}

// twin is another pair of disks that stand as these do.
func (b *both) twin() *both { return &both{b.asked.Twin(), b.told.Twin(), b.fused} }

// write writes sectors, from the sector i on.
func (b *both) write(t *testing.T, i int, l ...string) {
	t.Helper()
	for k, s := range l {
		if b.asked.Write(i+k, s) != api.OK || b.told.Write(i+k, s) != api.OK {
			t.Fatalf("%d isn't written", i+k)
		}
	}
}

// sync lets last what was written.
func (b *both) sync(t *testing.T) {
	t.Helper()
	if b.asked.Sync() != api.OK || b.told.Sync() != api.OK {
		t.Fatal("it isn't synced")
	}
}

// lay lets sectors last, from the sector i on.
func (b *both) lay(t *testing.T, i int, l ...string) {
	t.Helper()
	b.write(t, i, l...)
	b.sync(t)
}

// fuse sets both fuses.
func (b *both) fuse(n int) {
	b.fused = true
	b.asked.Fuse(n)
	b.told.Fuse(n)
}

// blow lets the power go at once.
func (b *both) blow(t *testing.T) {
	t.Helper()
	b.fuse(0)
	if b.asked.Sync() != api.ErrDown || b.told.Sync() != api.ErrDown || !b.asked.Down() {
		t.Fatal("the power doesn't go")
	}
}

// crash lets both crash.
func (b *both) crash(t *testing.T, keep ...int) {
	t.Helper()
	b.asked.Crash(keep)
	b.told.Crash(keep)
	b.same(t)
}

// spoil spoils a sector.
func (b *both) spoil(t *testing.T, i, at int, x string) {
	t.Helper()
	if b.asked.Spoil(i, at, x) != api.OK || b.told.Spoil(i, at, x) != api.OK {
		t.Fatalf("%d isn't spoilt from %d on", i, at)
	}
}

// reckoning is a record as the chapter tells it.
type reckoning struct {
	disk *disk.Disk
	from int
	text string
	has  bool
	// slot is the one that has what is kept.
	slot   int
	seen   uint64
	broken bool
}

// placeOf is the place's sectors, if none is spoilt.
func placeOf(d *disk.Disk, from int) (l []string, e api.Errno) {
	for i := from; i < from+sectors; i++ {
		s, e := d.Read(i)
		if e != api.OK {
			return nil, e
		}
		l = append(l, s)
	}
	for _, s := range l {
		if s != noughts && !isSound(s) {
			return nil, api.ErrSum
		}
	}
	return l, api.OK
}

// openOf is what Open answers.
func openOf(d *disk.Disk, from int) (*reckoning, api.Errno) {
	if from < 0 || from >= math.MaxInt-sectors || from+sectors > d.Sectors() {
		return nil, api.ErrArg
	}
	l, e := placeOf(d, from)
	if e != api.OK {
		return nil, e
	}
	r := &reckoning{disk: d, from: from}
	for _, s := range l {
		r.seen = max(r.seen, genOf(s))
	}
	a, n := heldBy(l[:slotSize])
	b, m := heldBy(l[slotSize:])
	switch {
	case n == 0 && m == 0:
	case n >= m:
		r.text, r.has, r.slot = a, true, 0
	default:
		r.text, r.has, r.slot = b, true, 1
	}
	return r, api.OK
}

// put is what Put does and answers.
func (r *reckoning) put(text string) api.Errno {
	switch {
	case r.broken:
		return api.ErrState
	case len(text) > most:
		return api.ErrLong
	case r.seen == math.MaxUint64:
		return api.ErrFull
	}
	slot := 0
	if r.has && r.slot == 0 {
		slot = 1
	}
	for i, s := range sectorsOf(partsOf(text, r.seen+1)) {
		if e := r.disk.Write(r.from+slot*slotSize+i, s); e != api.OK {
			r.broken = true
			return e
		}
	}
	if e := r.disk.Sync(); e != api.OK {
		r.broken = true
		return e
	}
	r.text, r.has, r.slot = text, true, slot
	r.seen++
	return api.OK
}

// asked is a record that is asked, and what the chapter tells of it.
type asked struct {
	disks *both
	kept  *kept.Kept
	told  *reckoning
}

// open asks Open, and tells its error.
func (b *both) open(t *testing.T, from int) (*asked, api.Errno) {
	t.Helper()
	r, want := openOf(b.told, from)
	k, e := kept.Open(b.asked, from)
	if e != want || (k == nil) != (r == nil) {
		t.Fatalf("Open from %d on is answered %d and %p, not %d", from, e, k, want)
	}
	b.same(t)
	a := &asked{b, k, r}
	if k != nil {
		a.get(t)
	}
	return a, e
}

// opened asks Open, which must open it.
func (b *both) opened(t *testing.T, from int) *asked {
	t.Helper()
	a, e := b.open(t, from)
	if e != api.OK {
		t.Fatalf("Open from %d on is answered %d", from, e)
	}
	return a
}

// refused asks Open of what it must refuse, and why.
func (b *both) refused(t *testing.T, from int, want api.Errno) {
	t.Helper()
	if _, e := b.open(t, from); e != want {
		t.Fatalf("Open from %d on is answered %d, not %d", from, e, want)
	}
}

// get asks Get.
func (a *asked) get(t *testing.T) {
	t.Helper()
	if s, has := a.kept.Get(); s != a.told.text || has != a.told.has {
		t.Fatalf("Get is answered %q, %v, not %q, %v", s, has, a.told.text, a.told.has)
	}
}

// put asks Put, and tells its answer.
func (a *asked) put(t *testing.T, text string) api.Errno {
	t.Helper()
	want := a.told.put(text)
	if e := a.kept.Put(text); e != want {
		t.Fatalf("Put of %q is answered %d, not %d", text, e, want)
	}
	a.get(t)
	a.disks.same(t)
	return want
}

// puts asks Put of some texts, each of which must be done.
func (a *asked) puts(t *testing.T, l ...string) {
	t.Helper()
	for _, s := range l {
		if e := a.put(t, s); e != api.OK {
			t.Fatalf("Put of %q is answered %d", s, e)
		}
		a.is(t, s)
	}
}

// denied asks Put of what it must refuse, and why.
func (a *asked) denied(t *testing.T, text string, want api.Errno) {
	t.Helper()
	if e := a.put(t, text); e != want {
		t.Fatalf("Put of %q is answered %d, not %d", text, e, want)
	}
}

// is asks whether a text is what is kept.
func (a *asked) is(t *testing.T, want string) {
	t.Helper()
	a.get(t)
	if s, has := a.kept.Get(); s != want || !has {
		t.Fatalf("Get is answered %q, %v, not %q", s, has, want)
	}
}

// empty asks whether nothing is kept.
func (a *asked) empty(t *testing.T) {
	t.Helper()
	a.get(t)
	if s, has := a.kept.Get(); s != "" || has {
		t.Fatalf("Get is answered %q, %v", s, has)
	}
}

// some is a text of n bytes, the same one for the same n and seed.
func some(n int, seed int64) string {
	b := make([]byte, n)
	rand.New(rand.NewSource(seed)).Read(b)
	return string(b)
}

// again is a text of the same bytes in memory of its own, and the way to write over it.
func again(text string) (string, []byte) {
	b := []byte(text)
	return unsafe.String(unsafe.SliceData(b), len(b)), b
}

// wipe writes over a text, wherever else it may be kept.
func wipe(text string) { clear(unsafe.Slice(unsafe.StringData(text), len(text))) }

// noughts is a blank sector.
var noughts = strings.Repeat("\x00", size)

// texts are records of all lengths at which something begins or ends, with noughts at their ends, too.
func texts() (l []string) {
	for i, n := range []int{0, 1, 2, 47, 48, 49, 95, 96, 97, 191, 192, 193, 383, 384, 385, 399, 400} {
		s := some(n, int64(i))
		l = append(l, s, strings.Repeat("\x00", n), strings.Repeat("\xff", n))
		if n > 1 {
			l = append(l, "\x00"+s[1:], s[:n-1]+"\x00", "\x00"+s[1:n-1]+"\x00")
		}
	}
	return l
}

// nones are records that are none: nil, and such as Open did not make.
func nones() map[string]*kept.Kept {
	return map[string]*kept.Kept{"nil": nil, "not made": {}, "new": new(kept.Kept)}
}
