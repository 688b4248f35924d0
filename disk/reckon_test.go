package disk_test

import (
	"encoding/binary"
	"hash/crc32"
	"math"
	"math/big"
	"math/rand"
	"slices"
	"strings"
	"testing"

	"twinlock/api"
	"twinlock/disk"
)

// size, bodySize, maxDisk and maxSpoil are the document's.
const (
	size     = 64
	bodySize = 60
	maxDisk  = 4096
	maxSpoil = 4
)

// sumOf is a text's sum, as others tell it.
func sumOf(s string) uint32 { return crc32.ChecksumIEEE([]byte(s)) }

// byWords is a text's sum, bit by bit as the chapter's words say it; the lowest bit stands first.
func byWords(s string) (sum uint32) {
	bits := make([]bool, 32)
	for i := range bits {
		bits[i] = true
	}
	for at := range len(s) {
		for i := range 8 {
			bits[i] = bits[i] != (s[at]>>i&1 == 1)
		}
		for range 8 {
			fell := bits[0]
			bits = append(bits[1:], false)
			for i := range bits {
				if fell && 0xedb88320>>i&1 == 1 {
					bits[i] = !bits[i]
				}
			}
		}
	}
	for i, set := range bits {
		if !set {
			sum |= 1 << i
		}
	}
	return sum
}

// closedOf is the sector that is closed of a body.
func closedOf(body string) string {
	return body + string(binary.LittleEndian.AppendUint32(nil, sumOf(body)))
}

// lookOf is what Look tells.
func lookOf(s string) (string, int) {
	switch {
	case s == noughts:
		return "", 0
	case len(s) == size && s == closedOf(s[:bodySize]):
		return s[:bodySize], 1
	}
	return "", 2
}

// modulo is a choice as a number from 0 to n.
func modulo(choice, n int) int {
	return int(new(big.Int).Mod(big.NewInt(int64(choice)), big.NewInt(int64(n)+1)).Int64())
}

// written is a write that waits.
type written struct {
	i int
	b string
}

// reckoning is a disk as the chapter tells it.
type reckoning struct {
	lasts []string
	// row is the writes since the last Sync, in their order.
	row   []written
	off   bool
	fused bool
	left  int
}

// writes are those that wait for a sector.
func (r *reckoning) writes(i int) (l []string) {
	for _, w := range r.row {
		if w.i == i {
			l = append(l, w.b)
		}
	}
	return l
}

// read is what Read answers.
func (r *reckoning) read(i int) (string, api.Errno) {
	if r.off {
		return "", api.ErrDown
	}
	if i < 0 || i >= len(r.lasts) {
		return "", api.ErrArg
	}
	l := append([]string{r.lasts[i]}, r.writes(i)...)
	return l[len(l)-1], api.OK
}

// act says whether an act is done.
func (r *reckoning) act() bool {
	if r.fused && r.left == 0 {
		r.off = true
	} else if r.fused {
		r.left--
	}
	return !r.off
}

// write is what Write does and answers.
func (r *reckoning) write(i int, b string) api.Errno {
	if r.off {
		return api.ErrDown
	}
	if i < 0 || i >= len(r.lasts) || len(b) != size {
		return api.ErrArg
	}
	if !r.act() {
		return api.ErrDown
	}
	r.row = append(r.row, written{i, b})
	return api.OK
}

// sync is what Sync does and answers.
func (r *reckoning) sync() api.Errno {
	if r.off || !r.act() {
		return api.ErrDown
	}
	for _, w := range r.row {
		r.lasts[w.i] = w.b
	}
	r.row = nil
	return api.OK
}

// fuse is what Fuse does.
func (r *reckoning) fuse(n int) { r.fused, r.left = n >= 0, n }

// crash is what Crash does.
func (r *reckoning) crash(keep []int) {
	k := 0
	for i := range r.lasts {
		l := r.writes(i)
		if len(l) == 0 {
			continue
		}
		if k < len(keep) {
			r.lasts[i] = append([]string{r.lasts[i]}, l...)[modulo(keep[k], len(l))]
		}
		k++
	}
	r.row, r.off, r.fused = nil, false, false
}

// spoil is what Spoil does and answers.
func (r *reckoning) spoil(i, at int, x string) api.Errno {
	if i < 0 || i >= len(r.lasts) || len(x) > maxSpoil || at < 0 || at > size || at+len(x) > size {
		return api.ErrArg
	}
	b := []byte(r.lasts[i])
	for j := range len(x) {
		b[at+j] ^= x[j]
	}
	r.lasts[i] = string(b)
	return api.OK
}

// twin is what Twin answers.
func (r *reckoning) twin() *reckoning {
	return &reckoning{slices.Clone(r.lasts), slices.Clone(r.row), r.off, r.fused, r.left}
}

// asked is a disk that is asked, and what the chapter tells of it.
type asked struct {
	disk *disk.Disk
	told *reckoning
}

// start is a new disk.
func start(t *testing.T, sectors int) *asked {
	t.Helper()
	d, e := disk.New(sectors)
	if e != api.OK || d == nil {
		t.Fatalf("New of %d: %d", sectors, e)
	}
	a := &asked{d, &reckoning{lasts: slices.Repeat([]string{noughts}, sectors)}}
	a.stands(t)
	return a
}

// probes are the sectors that are asked how a disk stands: all of a small one, and those beyond it.
func (a *asked) probes() []int {
	n := len(a.told.lasts)
	if n > 40 {
		return []int{-1, 0, 1, 2, 3, n / 2, n - 2, n - 1, n}
	}
	l := []int{-1}
	for i := range n + 1 {
		l = append(l, i)
	}
	return l
}

// read asks Read.
func (a *asked) read(t *testing.T, i int) {
	t.Helper()
	want, f := a.told.read(i)
	if b, e := a.disk.Read(i); b != want || e != f {
		t.Fatalf("Read of %d: %d and %x, not %d and %x", i, e, b, f, want)
	}
}

// stands asks how the disk stands.
func (a *asked) stands(t *testing.T) {
	t.Helper()
	if n := a.disk.Sectors(); n != len(a.told.lasts) {
		t.Fatalf("Sectors is %d, not %d", n, len(a.told.lasts))
	}
	if n := a.disk.Waits(); n != len(a.told.row) {
		t.Fatalf("Waits is %d, not %d", n, len(a.told.row))
	}
	if off := a.disk.Down(); off != a.told.off {
		t.Fatalf("Down is %v", off)
	}
	for _, i := range a.probes() {
		a.read(t, i)
	}
}

// write asks Write, and tells its answer.
func (a *asked) write(t *testing.T, i int, b string) api.Errno {
	t.Helper()
	want := a.told.write(i, b)
	if e := a.disk.Write(i, b); e != want {
		t.Fatalf("Write of %d bytes to %d is answered %d, not %d", len(b), i, e, want)
	}
	a.read(t, i)
	a.stands(t)
	return want
}

// writes asks Write of some texts for one sector, each of which must be done.
func (a *asked) writes(t *testing.T, i int, l ...string) {
	t.Helper()
	for _, b := range l {
		if e := a.write(t, i, b); e != api.OK {
			t.Fatalf("Write to %d is answered %d", i, e)
		}
	}
}

// refused asks Write of what it must refuse, and why.
func (a *asked) refused(t *testing.T, i int, b string, want api.Errno) {
	t.Helper()
	if e := a.write(t, i, b); e != want {
		t.Fatalf("Write of %d bytes to %d is answered %d, not %d", len(b), i, e, want)
	}
}

// sync asks Sync, and tells its answer.
func (a *asked) sync(t *testing.T) api.Errno {
	t.Helper()
	want := a.told.sync()
	if e := a.disk.Sync(); e != want {
		t.Fatalf("Sync is answered %d, not %d", e, want)
	}
	a.stands(t)
	return want
}

// synced asks Sync, which must be done.
func (a *asked) synced(t *testing.T) {
	t.Helper()
	if e := a.sync(t); e != api.OK {
		t.Fatalf("Sync is answered %d", e)
	}
}

// fuse asks Fuse.
func (a *asked) fuse(t *testing.T, n int) {
	t.Helper()
	a.told.fuse(n)
	a.disk.Fuse(n)
	a.stands(t)
}

// blow lets the power go at once.
func (a *asked) blow(t *testing.T) {
	t.Helper()
	a.fuse(t, 0)
	if e := a.sync(t); e != api.ErrDown || !a.disk.Down() {
		t.Fatalf("Sync at the fuse's end is answered %d", e)
	}
}

// crash asks Crash.
func (a *asked) crash(t *testing.T, keep ...int) {
	t.Helper()
	a.told.crash(keep)
	a.disk.Crash(keep)
	a.stands(t)
	if a.disk.Waits() != 0 || a.disk.Down() {
		t.Fatalf("behind a crash %d wait, Down is %v", a.disk.Waits(), a.disk.Down())
	}
}

// spoil asks Spoil, and tells its answer.
func (a *asked) spoil(t *testing.T, i, at int, x string) api.Errno {
	t.Helper()
	want := a.told.spoil(i, at, x)
	if e := a.disk.Spoil(i, at, x); e != want {
		t.Fatalf("Spoil of %d from %d on, %d bytes, is answered %d, not %d", i, at, len(x), e, want)
	}
	a.read(t, i)
	a.stands(t)
	return want
}

// twin asks Twin.
func (a *asked) twin(t *testing.T) *asked {
	t.Helper()
	b := &asked{a.disk.Twin(), a.told.twin()}
	if b.disk == nil || b.disk == a.disk {
		t.Fatalf("Twin is %p, of %p", b.disk, a.disk)
	}
	b.stands(t)
	return b
}

// holds asks all that a disk holds, by crashes of twins: what lasts, and each of the writes that wait; then it stands as it did.
func (a *asked) holds(t *testing.T) {
	t.Helper()
	most := 0
	for _, i := range a.probes() {
		most = max(most, len(a.told.writes(i)))
	}
	for c := range most + 1 {
		a.twin(t).crash(t, slices.Repeat([]int{c}, len(a.told.lasts))...)
	}
	a.stands(t)
}

// some is a text of n bytes, the same one for the same n and seed.
func some(n int, seed int64) string {
	b := make([]byte, n)
	rand.New(rand.NewSource(seed)).Read(b)
	return string(b)
}

// filled is a sector of one byte.
func filled(c byte) string { return strings.Repeat(string([]byte{c}), size) }

// noughts is a blank sector; the others are some sectors' bytes.
var (
	noughts    = filled(0)
	sA, sB, sC = filled('A'), filled('B'), filled('C')
)

// Sectors' numbers of which no disk has one; lengths that no sector has.
var (
	beyond  = []int{-1, -2, -64, math.MinInt, math.MinInt + 1, -1 << 32, maxDisk, maxDisk + 1, 1 << 31, 1 << 32, 1<<32 + 1, math.MaxInt}
	lengths = []int{0, 1, 59, 60, 61, 62, 63, 65, 66, 127, 128, 4096, 1 << 20}
)

// choices are some choices of a crash.
var choices = []int{0, 1, 2, 3, 4, 5, 6, 7, 100, -1, -2, -3, -4, -5, -6, -7, -100, math.MaxInt, math.MaxInt - 1, math.MinInt, math.MinInt + 1, 1 << 32, -1 << 32}

// nones are disks that are none: nil, and such as New did not make.
func nones() map[string]*disk.Disk {
	return map[string]*disk.Disk{"nil": nil, "not made": {}, "new": new(disk.Disk)}
}
