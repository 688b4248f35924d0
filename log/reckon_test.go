package log_test

import (
	"encoding/binary"
	"hash/crc32"
	"math"
	"reflect"
	"slices"
	"strings"
	"testing"

	"twinlock/api"
	"twinlock/disk"
	"twinlock/log"
)

// These numbers are the document's: a sector's bytes and a body's, a record's most bytes and parts, a part's bytes.
const (
	size      = 64
	bodySize  = 60
	most      = 1024
	mostParts = 32
	piece     = 32
)

// noughts is a blank sector.
var noughts = strings.Repeat("\x00", size)

// closedOf is the sector that is closed of a body.
func closedOf(body string) string {
	return body + string(binary.LittleEndian.AppendUint32(nil, crc32.ChecksumIEEE([]byte(body))))
}

// isSound says whether a sector is closed of its body.
func isSound(s string) bool { return len(s) == size && s == closedOf(s[:bodySize]) }

// head is what all parts of a record share.
type head struct{ epoch, salt, ahead uint64 }

// part is what a part's sector is closed of, right or wrong; its bytes may be more than a part's.
type part struct {
	head
	number, count, length, nought byte
	bytes                         string
}

// sector is a part's sector.
func (p part) sector() string {
	b := binary.LittleEndian.AppendUint64(nil, p.epoch)
	b = binary.LittleEndian.AppendUint64(b, p.salt)
	b = binary.LittleEndian.AppendUint64(b, p.ahead)
	b = append(b, p.number, p.count, p.length, p.nought)
	b = append(b, p.bytes...)
	return closedOf(string(append(b, make([]byte, bodySize-len(b))...)))
}

// cut is a record's parts.
func cut(record string) (l []string) {
	for len(record) > piece {
		l, record = append(l, record[:piece]), record[piece:]
	}
	return append(l, record)
}

// partsOf is what the sectors of a record's parts are closed of.
func partsOf(record string, h head) (l []part) {
	pieces := cut(record)
	for i, s := range pieces {
		l = append(l, part{head: h, number: byte(i), count: byte(len(pieces)), length: byte(len(s)), bytes: s})
	}
	return l
}

// sectorsOf are the sectors of parts.
func sectorsOf(parts []part) (l []string) {
	for _, p := range parts {
		l = append(l, p.sector())
	}
	return l
}

// logOf are the sectors of records, the first one of which has the salt 1.
func logOf(epoch uint64, records ...string) (l []string) {
	for i, s := range records {
		l = append(l, sectorsOf(partsOf(s, head{epoch, uint64(i + 1), uint64(i)}))...)
	}
	return l
}

// number is the k-th number of a sector.
func number(s string, k int) uint64 { return binary.LittleEndian.Uint64([]byte(s[8*k:])) }

// recordAt is the record of an epoch, behind one of that salt, as whose parts' sectors these begin; of none there are no sectors.
func recordAt(l []string, epoch, ahead uint64) (record string, h head, sectors int) {
	count := int(l[0][25])
	if count < 1 || count > min(mostParts, len(l)) {
		return "", head{}, 0
	}
	for _, s := range l[:count] {
		record += s[28:bodySize]
	}
	// Another length than the last part tells can't be.
	n := (count-1)*piece + int(l[count-1][26])
	h = head{epoch, number(l[0], 1), ahead}
	if n > len(record) || !slices.Equal(l[:count], sectorsOf(partsOf(record[:n], h))) {
		return "", head{}, 0
	}
	return record[:n], h, count
}

// reckoning is a log as the chapter tells it.
type reckoning struct {
	from, sectors int
	epoch         uint64
	records       []string
	// last is the last record's salt, salt the log's.
	last, salt uint64
	broken     bool
}

// room is how many sectors are left behind the records.
func (r *reckoning) room() int {
	n := r.sectors
	for _, s := range r.records {
		n -= len(cut(s))
	}
	return n
}

// openOf is what Open answers.
func openOf(d *disk.Disk, from, sectors int, epoch uint64) (*reckoning, api.Errno) {
	if from < 0 || sectors < 1 || sectors > d.Sectors() || from > d.Sectors()-sectors || epoch == 0 {
		return nil, api.ErrArg
	}
	var l []string
	for i := range sectors {
		s, e := d.Read(from + i)
		if e != api.OK {
			return nil, e
		}
		l = append(l, s)
	}
	r := &reckoning{from: from, sectors: sectors, epoch: epoch}
	for _, s := range l {
		if s != noughts && !isSound(s) {
			return nil, api.ErrSum
		}
		r.salt = max(r.salt, number(s, 1))
	}
	for len(l) > 0 {
		record, h, n := recordAt(l, epoch, r.last)
		if n == 0 {
			break
		}
		r.records, r.last, l = append(r.records, record), h.salt, l[n:]
	}
	return r, api.OK
}

// add is what Add does to a disk, and answers.
func (r *reckoning) add(d *disk.Disk, record string) api.Errno {
	switch {
	case r.broken:
		return api.ErrState
	case len(record) > most:
		return api.ErrLong
	case len(cut(record)) > r.room() || r.salt == math.MaxUint64:
		return api.ErrFull
	}
	at := r.from + r.sectors - r.room()
	for i, s := range sectorsOf(partsOf(record, head{r.epoch, r.salt + 1, r.last})) {
		if e := d.Write(at+i, s); e != api.OK {
			r.broken = true
			return e
		}
	}
	if e := d.Sync(); e != api.OK {
		r.broken = true
		return e
	}
	r.records = append(r.records, record)
	r.salt++
	r.last = r.salt
	return api.OK
}

// readings are how a disk's sectors are read.
func readings(d *disk.Disk) (l []string) {
	for i := range d.Sectors() {
		s, _ := d.Read(i)
		l = append(l, s)
	}
	return l
}

// standing is what a disk tells: how many acts more it does (to some bound), and how it is read, now and behind some crashes.
type standing struct {
	waits, acts int
	down        bool
	read        [][]string
}

// stand is how a disk stands.
func stand(d *disk.Disk) standing {
	s := standing{waits: d.Waits(), down: d.Down(), read: [][]string{readings(d)}}
	for x := d.Twin(); s.acts < mostParts+4 && x.Sync() == api.OK; {
		s.acts++
	}
	if s.waits == 0 && !s.down {
		return s
	}
	for choice := range 4 {
		x := d.Twin()
		x.Crash(slices.Repeat([]int{choice}, x.Sectors()))
		s.read = append(s.read, readings(x))
	}
	return s
}

// alike asks whether a disk stands as another one does.
func alike(t *testing.T, d, want *disk.Disk) {
	t.Helper()
	if a, b := stand(d), stand(want); !reflect.DeepEqual(a, b) {
		t.Fatalf("the disk stands so:\n%v, %d, %d, %x\nnot so:\n%v, %d, %d, %x", a.down, a.waits, a.acts, a.read, b.down, b.waits, b.acts, b.read)
	}
}

// newDisk is a disk of so many sectors.
func newDisk(t *testing.T, n int) *disk.Disk {
	t.Helper()
	d, e := disk.New(n)
	if e != api.OK {
		t.Fatalf("New of %d sectors is answered %d", n, e)
	}
	return d
}

// lay lets sectors last, from the sector i on.
func lay(t *testing.T, d *disk.Disk, i int, l ...string) {
	t.Helper()
	for k, s := range l {
		if e := d.Write(i+k, s); e != api.OK {
			t.Fatalf("the sector %d isn't written: %d", i+k, e)
		}
	}
	if e := d.Sync(); e != api.OK {
		t.Fatalf("it isn't synced: %d", e)
	}
}

// laid is a disk of so many sectors, on which some are laid from the sector i on.
func laid(t *testing.T, n, i int, l ...string) *disk.Disk {
	t.Helper()
	d := newDisk(t, n)
	lay(t, d, i, l...)
	return d
}

// blow lets the power go.
func blow(t *testing.T, d *disk.Disk) {
	t.Helper()
	d.Fuse(0)
	if e := d.Sync(); e != api.ErrDown || !d.Down() {
		t.Fatalf("the power doesn't go: %d", e)
	}
}

// spoil spoils what lasts in a sector.
func spoil(t *testing.T, d *disk.Disk, i, at int, x string) {
	t.Helper()
	if e := d.Spoil(i, at, x); e != api.OK {
		t.Fatalf("the sector %d isn't spoilt from %d on: %d", i, at, e)
	}
}

// asked is a log that is asked, and what the chapter tells of it.
type asked struct {
	disk *disk.Disk
	log  *log.Log
	told *reckoning
}

// open asks Open, and tells its error.
func open(t *testing.T, d *disk.Disk, from, sectors int, epoch uint64) (*asked, api.Errno) {
	t.Helper()
	was := d.Twin()
	r, want := openOf(was, from, sectors, epoch)
	l, e := log.Open(d, from, sectors, epoch)
	if e != want || (l == nil) != (r == nil) {
		t.Fatalf("Open of %d sectors from %d on, epoch %d, is answered %p, %d, not %d", sectors, from, epoch, l, e, want)
	}
	alike(t, d, was)
	a := &asked{d, l, r}
	if l != nil {
		a.tells(t)
	}
	return a, e
}

// opened asks Open, which must open it.
func opened(t *testing.T, d *disk.Disk, from, sectors int, epoch uint64) *asked {
	t.Helper()
	a, e := open(t, d, from, sectors, epoch)
	if e != api.OK {
		t.Fatalf("Open of %d sectors from %d on, epoch %d, is answered %d", sectors, from, epoch, e)
	}
	return a
}

// refused asks Open of what it must refuse, and why.
func refused(t *testing.T, d *disk.Disk, from, sectors int, epoch uint64, want api.Errno) {
	t.Helper()
	if _, e := open(t, d, from, sectors, epoch); e != want {
		t.Fatalf("Open of %d sectors from %d on, epoch %d, is answered %d, not %d", sectors, from, epoch, e, want)
	}
}

// again opens the same sectors once more.
func (a *asked) again(t *testing.T) *asked {
	t.Helper()
	return opened(t, a.disk, a.told.from, a.told.sectors, a.told.epoch)
}

// tells asks Records and Room.
func (a *asked) tells(t *testing.T) {
	t.Helper()
	if l := a.log.Records(); !slices.Equal(l, a.told.records) {
		t.Fatalf("Records are %.40q, not %.40q", l, a.told.records)
	}
	if n := a.log.Room(); n != a.told.room() {
		t.Fatalf("Room is %d, not %d", n, a.told.room())
	}
}

// has asks whether these are the records.
func (a *asked) has(t *testing.T, want ...string) {
	t.Helper()
	a.tells(t)
	if l := a.log.Records(); !slices.Equal(l, want) {
		t.Fatalf("Records are %.40q, not %.40q", l, want)
	}
}

// add asks Add, and tells its answer.
func (a *asked) add(t *testing.T, record string) api.Errno {
	t.Helper()
	d := a.disk.Twin()
	want := a.told.add(d, record)
	if e := a.log.Add(record); e != want {
		t.Fatalf("Add of %.40q is answered %d, not %d", record, e, want)
	}
	alike(t, a.disk, d)
	a.tells(t)
	return want
}

// adds asks Add of some records, each of which must be done.
func (a *asked) adds(t *testing.T, l ...string) *asked {
	t.Helper()
	for _, s := range l {
		if e := a.add(t, s); e != api.OK {
			t.Fatalf("Add of %.40q is answered %d", s, e)
		}
	}
	return a
}

// denied asks Add of what it must refuse, and why.
func (a *asked) denied(t *testing.T, record string, want api.Errno) {
	t.Helper()
	if e := a.add(t, record); e != want {
		t.Fatalf("Add of %.40q is answered %d, not %d", record, e, want)
	}
}

// some is a text of n bytes, none of them a nought, the same one for the same n and seed.
func some(n int, seed int64) string {
	// A source of the library's takes long to be made.
	x := uint64(seed)
	b := make([]byte, n)
	for i := range b {
		x = x*6364136223846793005 + 1442695040888963407
		b[i] = byte(1 + (x>>40)%255)
	}
	return string(b)
}

// texts are records of all lengths at which something begins or ends, with noughts at their ends, too.
func texts() (l []string) {
	for i, n := range []int{0, 1, 2, 31, 32, 33, 63, 64, 65, 96, 97, 991, 992, 993, 1023, 1024} {
		s := some(n, int64(i))
		l = append(l, s, strings.Repeat("\x00", n), strings.Repeat("\xff", n))
		if n > 1 {
			l = append(l, "\x00"+s[1:], s[:n-1]+"\x00", "\x00"+s[1:n-1]+"\x00")
		}
	}
	return l
}
