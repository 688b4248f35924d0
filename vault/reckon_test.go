package vault_test

import (
	"maps"
	"math"
	"reflect"
	"slices"
	"strconv"
	"strings"
	"testing"
	"unsafe"

	"twinlock/api"
	"twinlock/disk"
	"twinlock/omap"
	"twinlock/vault"
)

// The document's numbers.
const (
	size      = 64
	sectors   = 500
	maxRows   = 24
	maxKeys   = 48
	maxOps    = 4
	maxValue  = 32
	maxSecret = 64
	maxRing   = 1 << 20
	maxIndex  = 1 << 62
)

// isName says whether a text is a mount's name.
func isName(s string) bool {
	return len(s) > 0 && len(s) <= 8 && strings.Trim(s, "abcdefghijklmnopqrstuvwxyz") == ""
}

// isPath says whether a text is a path.
func isPath(p string) bool {
	l := strings.Split(p, "/")
	return len(l) == 2 && isName(l[0]) && len(l[1]) > 0 && len(l[1]) <= 24 && !strings.Contains(l[1], "\x00")
}

// metaOf says whether a meta is right.
func metaOf(m vault.Meta) bool {
	seen := map[string]int{}
	for _, x := range m.Mounts {
		seen[x.Name]++
		if !isName(x.Name) || seen[x.Name] > 1 {
			return false
		}
	}
	return slices.Contains([]int{0, 1, 2, 3}, m.Role) && m.Seen > -1 && m.Grant > -1 && len(m.Mounts) < 5 && len(m.Secret) < 65
}

// opOf is the first error of an operation.
func opOf(o api.Op) api.Errno {
	switch {
	case o.Kind != 1 && o.Kind != 2:
		return api.ErrKind
	case !isPath(o.Path):
		return api.ErrKey
	case len(o.Value) > maxValue:
		return api.ErrLong
	case o.Kind == 2 && o.Value != "":
		return api.ErrArg
	}
	return api.OK
}

// batchOf is why a batch isn't right.
func batchOf(b api.Batch) api.Errno {
	if b.Index < 1 || b.Index > maxIndex || b.Epoch < 1 {
		return api.ErrArg
	}
	if len(b.Ops) > maxOps {
		return api.ErrLong
	}
	for _, o := range b.Ops {
		if e := opOf(o); e != api.OK {
			return e
		}
	}
	return api.OK
}

// stand is all that a vault tells; a list without elements is nil.
type stand struct {
	meta      vault.Meta
	at, epoch int
	pairs     []api.Pair
	rows      []api.Batch
	prev      int
	key, boot int
}

// orNil is a list, and nil, if it has no elements.
func orNil[T any](l []T) []T {
	if len(l) == 0 {
		return nil
	}
	return l
}

// seen is what a vault tells.
func seen(v *vault.Vault) stand {
	s := stand{meta: v.Meta(), pairs: orNil(v.Map().All()), key: v.Key(), boot: v.Boot()}
	s.at, s.epoch = v.Place()
	s.rows, s.prev = v.Batches()
	s.rows, s.meta.Mounts = orNil(s.rows), orNil(s.meta.Mounts)
	for i := range s.rows {
		s.rows[i].Ops = orNil(s.rows[i].Ops)
	}
	return s
}

// model is a vault as the chapter tells it.
type model struct {
	meta            vault.Meta
	at, epoch, prev int
	rows            []api.Batch
	pairs           map[string]string
	key, boot       int
	down            bool
}

// stand is what a vault like it must tell.
func (m *model) stand() stand {
	s := stand{meta: m.meta, at: m.at, epoch: m.epoch, rows: orNil(m.rows), prev: m.prev, key: m.key, boot: m.boot}
	s.meta.Mounts = orNil(s.meta.Mounts)
	for _, p := range slices.Sorted(maps.Keys(m.pairs)) {
		s.pairs = append(s.pairs, api.Pair{Path: p, Value: m.pairs[p]})
	}
	return s
}

// twin is another one like it.
func (m *model) twin() *model {
	n := *m
	n.rows, n.pairs = slices.Clone(m.rows), maps.Clone(m.pairs)
	return &n
}

// opened is the one that is opened next.
func (m *model) opened() *model {
	n := m.twin()
	n.boot++
	n.down = false
	return n
}

// forgotten is one of which the batches are forgotten.
func (m *model) forgotten() *model {
	n := m.twin()
	n.rows, n.prev = nil, m.epoch
	return n
}

// commit is what Commit does and answers.
func (m *model) commit(b api.Batch) api.Errno {
	if m.down {
		return api.ErrDown
	}
	if e := batchOf(b); e != api.OK {
		return e
	}
	if b.Index != m.at+1 || b.Epoch < m.epoch {
		return api.ErrArg
	}
	next := maps.Clone(m.pairs)
	for _, o := range b.Ops {
		if o.Kind == 1 {
			next[o.Path] = o.Value
		} else {
			delete(next, o.Path)
		}
	}
	if len(next) > maxKeys {
		return api.ErrFull
	}
	if len(m.rows) == maxRows {
		*m = *m.forgotten()
	}
	b.Ops = orNil(slices.Clone(b.Ops))
	m.rows = append(m.rows, b)
	m.at, m.epoch, m.pairs = b.Index, b.Epoch, next
	return api.OK
}

// set is what Set does and answers.
func (m *model) set(x vault.Meta) api.Errno {
	switch {
	case m.down:
		return api.ErrDown
	case !metaOf(x):
		return api.ErrArg
	}
	x.Mounts = slices.Clone(x.Mounts)
	m.meta = x
	return api.OK
}

// mapOf is a map of pairs, or why there is none.
func mapOf(l []api.Pair) (map[string]string, api.Errno) {
	if len(l) > maxKeys {
		return nil, api.ErrFull
	}
	m := map[string]string{}
	for _, x := range l {
		if !isPath(x.Path) || len(x.Value) > maxValue {
			return nil, api.ErrArg
		}
		if _, there := m[x.Path]; there {
			return nil, api.ErrThere
		}
		m[x.Path] = x.Value
	}
	return m, api.OK
}

// install is what Install does and answers.
func (m *model) install(x vault.Meta, l []api.Pair, at, epoch int) api.Errno {
	if m.down {
		return api.ErrDown
	}
	if none := at == 0 && epoch == 0; !metaOf(x) || !none && (at < 1 || at > maxIndex || epoch < 1) {
		return api.ErrArg
	}
	pairs, e := mapOf(l)
	if e != api.OK {
		return e
	}
	x.Mounts = slices.Clone(x.Mounts)
	m.meta, m.pairs, m.rows = x, pairs, nil
	m.at, m.epoch, m.prev = at, epoch, epoch
	return api.OK
}

// rotate is what Rotate does and answers.
func (m *model) rotate() api.Errno {
	switch {
	case m.down:
		return api.ErrDown
	case m.key == maxRing:
		return api.ErrFull
	}
	m.key++
	return api.OK
}

// ink is texts and lists with memory of their own, of which it is known where they are.
type ink struct {
	texts [][]byte
	ops   []api.Op
}

// text is a text in memory of its own.
func (k *ink) text(s string) string {
	b := []byte(s)
	k.texts = append(k.texts, b)
	return unsafe.String(unsafe.SliceData(b), len(b))
}

// wipe writes over all the texts.
func (k *ink) wipe() {
	for _, b := range k.texts {
		for i := range b {
			b[i] ^= 0x55
		}
	}
}

// spare is how many elements more than its own a list has room for that is handed in.
const spare = 2

// roomy is a list with spare room; all that stands there is x.
func roomy[T any](l []T, x T, own func(T) T) []T {
	r := make([]T, 0, len(l)+spare)
	for _, y := range l {
		r = append(r, own(y))
	}
	return append(r, slices.Repeat([]T{x}, spare)...)[:len(l)]
}

// stays asks whether a list that was handed in, its spare room too, is as it was; then it is written over.
func stays[T comparable](t *testing.T, l, want []T, x, over T) {
	t.Helper()
	if !slices.Equal(l, want) || !slices.Equal(l[len(l):len(l)+spare], slices.Repeat([]T{x}, spare)) {
		t.Fatalf("what was handed in is now %v, not %v", l[:len(l)+spare], want)
	}
	for i := range l[:len(l)+spare] {
		l[:len(l)+spare][i] = over
	}
}

// wild are what stands in lists' spare room, and what is written over them.
var (
	wildOp    = api.Op{Kind: 7, Path: "wild", Value: "op"}
	wildPair  = api.Pair{Path: "wild", Value: "pair"}
	wildMount = api.Mount{Name: "wild", Ship: true}
)

// op, pair and mount are those with texts of their own.
func (k *ink) op(o api.Op) api.Op {
	return api.Op{Kind: o.Kind, Path: k.text(o.Path), Value: k.text(o.Value)}
}

func (k *ink) pair(x api.Pair) api.Pair {
	return api.Pair{Path: k.text(x.Path), Value: k.text(x.Value)}
}

func (k *ink) mount(x api.Mount) api.Mount { return api.Mount{Name: k.text(x.Name), Ship: x.Ship} }

// meta is a meta with memory of its own.
func (k *ink) meta(m vault.Meta) vault.Meta {
	m.Mounts, m.Secret = roomy(m.Mounts, wildMount, k.mount), k.text(m.Secret)
	return m
}

// asked is a vault that is asked, and what the chapter tells of it.
type asked struct {
	disk   *disk.Disk
	master string
	v      *vault.Vault
	told   *model
}

// tells asks all that a vault tells.
func (a *asked) tells(t *testing.T) {
	t.Helper()
	if got, want := seen(a.v), a.told.stand(); !reflect.DeepEqual(got, want) {
		t.Fatalf("the vault tells\n%+v\nnot\n%+v", got, want)
	}
}

// newDisk is a blank disk.
func newDisk(t *testing.T, n int) *disk.Disk {
	t.Helper()
	d, e := disk.New(n)
	if e != api.OK {
		t.Fatalf("New of %d sectors is answered %d", n, e)
	}
	return d
}

// openOn opens a disk, which must tell what a model does.
func openOn(t *testing.T, d *disk.Disk, master string, told *model) *asked {
	t.Helper()
	v, e := vault.Open(d, master)
	if e != api.OK || v == nil {
		t.Fatalf("Open is answered %p, %d", v, e)
	}
	a := &asked{d, master, v, told}
	a.tells(t)
	return a
}

// fresh is a new vault.
func fresh(t *testing.T) *asked {
	t.Helper()
	return openOn(t, newDisk(t, sectors), "master", &model{boot: 1, pairs: map[string]string{}})
}

// again opens the same disk anew.
func (a *asked) again(t *testing.T) *asked {
	t.Helper()
	return openOn(t, a.disk, a.master, a.told.opened())
}

// fork opens a disk that is the same.
func (a *asked) fork(t *testing.T) *asked {
	t.Helper()
	return openOn(t, a.disk.Twin(), a.master, a.told.opened())
}

// lasts asks whether all is there that was done, in a vault that is opened on a disk that is the same.
func (a *asked) lasts(t *testing.T) {
	t.Helper()
	x := a.disk.Twin()
	x.Crash(nil)
	openOn(t, x, a.master, a.told.opened())
}

// commit asks Commit, and tells its answer.
func (a *asked) commit(t *testing.T, b api.Batch) api.Errno {
	t.Helper()
	k := &ink{}
	own := b
	own.Ops = roomy(b.Ops, wildOp, k.op)
	e := a.v.Commit(own)
	stays(t, own.Ops, b.Ops, wildOp, api.Op{Kind: 1, Path: "over/a"})
	k.wipe()
	if want := a.told.commit(b); e != want {
		t.Fatalf("Commit of %.99v is answered %d, not %d", b, e, want)
	}
	a.tells(t)
	return e
}

// set asks Set, and tells its answer.
func (a *asked) set(t *testing.T, m vault.Meta) api.Errno {
	t.Helper()
	k := &ink{}
	own := k.meta(m)
	e := a.v.Set(own)
	stays(t, own.Mounts, m.Mounts, wildMount, api.Mount{Name: "over"})
	k.wipe()
	if want := a.told.set(m); e != want {
		t.Fatalf("Set of %.99v is answered %d, not %d", m, e, want)
	}
	a.tells(t)
	return e
}

// install asks Install, and tells its answer.
func (a *asked) install(t *testing.T, m vault.Meta, l []api.Pair, at, epoch int) api.Errno {
	t.Helper()
	k := &ink{}
	own, pairs := k.meta(m), roomy(l, wildPair, k.pair)
	e := a.v.Install(own, pairs, at, epoch)
	stays(t, own.Mounts, m.Mounts, wildMount, api.Mount{Name: "over"})
	stays(t, pairs, l, wildPair, api.Pair{Path: "over/a", Value: "over"})
	k.wipe()
	if want := a.told.install(m, l, at, epoch); e != want {
		t.Fatalf("Install of %.99v, %.99v, %d, %d is answered %d, not %d", m, l, at, epoch, e, want)
	}
	a.tells(t)
	return e
}

// rotate asks Rotate, and tells its answer.
func (a *asked) rotate(t *testing.T) api.Errno {
	t.Helper()
	e := a.v.Rotate()
	if want := a.told.rotate(); e != want {
		t.Fatalf("Rotate is answered %d, not %d", e, want)
	}
	a.tells(t)
	return e
}

// is asks that an answer is the one that is wanted.
func is(t *testing.T, e, want api.Errno) {
	t.Helper()
	if e != want {
		t.Fatalf("the answer is %d, not %d", e, want)
	}
}

// next is the batch of operations that goes on from the place.
func (m *model) next(ops ...api.Op) api.Batch {
	return api.Batch{Index: m.at + 1, Epoch: max(m.epoch, 1), Ops: ops}
}

// commits asks Commit of n batches that go on.
func (a *asked) commits(t *testing.T, n int) *asked {
	t.Helper()
	for range n {
		i := a.told.at
		is(t, a.commit(t, a.told.next(put("app/k"+strconv.Itoa(i%30), "v"+strconv.Itoa(i)))), api.OK)
	}
	return a
}

// put and del are operations.
func put(p, v string) api.Op { return api.Op{Kind: 1, Path: p, Value: v} }
func del(p string) api.Op    { return api.Op{Kind: 2, Path: p} }

// batchAt is a batch.
func batchAt(index, epoch int, ops ...api.Op) api.Batch {
	return api.Batch{Index: index, Epoch: epoch, Ops: ops}
}

// some is a text of n bytes, none of them a nought or a slash, the same one for the same n and seed.
func some(n int, seed int) string {
	x := uint64(seed)*2654435761 + 12345
	b := make([]byte, n)
	for i := range b {
		x = x*6364136223846793005 + 1442695040888963407
		b[i] = byte(1 + (x>>40)%255)
		if b[i] == '/' {
			b[i]++
		}
	}
	return string(b)
}

// longest is the i-th of the paths of most bytes.
func longest(i int) string {
	s := strconv.Itoa(i)
	return "mountain" + "/" + s + strings.Repeat("k", 24-len(s))
}

// most is n pairs of most bytes.
func most(n int) (l []api.Pair) {
	for i := range n {
		l = append(l, api.Pair{Path: longest(i), Value: some(maxValue, i)})
	}
	return l
}

// mounts are those of such names, of which those with a ! behind are shipped.
func mounts(names ...string) (l []api.Mount) {
	for _, n := range names {
		s, ship := strings.CutSuffix(n, "!")
		l = append(l, api.Mount{Name: s, Ship: ship})
	}
	return l
}

// greatest is a meta of most bytes.
func greatest() vault.Meta {
	return vault.Meta{Role: 3, Seen: math.MaxInt, Grant: math.MaxInt, Mounts: mounts("aaaaaaaa!", "bbbbbbbb", "cccccccc!", "dddddddd"), Secret: some(maxSecret, 64)}
}

// metas are some that are right.
func metas() []vault.Meta {
	return []vault.Meta{
		{},
		{Role: 1, Seen: 1, Grant: 1, Mounts: mounts("app!", "ops"), Secret: "seed"},
		{Role: 2, Seen: 300, Mounts: mounts("app"), Secret: some(33, 1)},
		greatest(),
		{Role: 3, Seen: 5, Grant: 4},
		{Mounts: mounts("z!")},
		{Secret: "\x00"},
	}
}

// texts are what lasts in the sectors of a disk.
func texts(d *disk.Disk) (l []string) {
	x := d.Twin()
	x.Crash(nil)
	for i := range x.Sectors() {
		s, _ := x.Read(i)
		l = append(l, s)
	}
	return l
}

// noughts is a blank sector.
var noughts = strings.Repeat("\x00", size)

// written are the numbers of the sectors that aren't blank.
func written(d *disk.Disk) (l []int) {
	for i, s := range texts(d) {
		if s != noughts {
			l = append(l, i)
		}
	}
	return l
}

// nones are vaults that are none: nil, and such as Open did not make.
func nones() []*vault.Vault { return []*vault.Vault{nil, {}, new(vault.Vault)} }

// sameMap asks whether a map has these pairs.
func sameMap(m *omap.Map, want []api.Pair) bool { return slices.Equal(m.All(), want) }
