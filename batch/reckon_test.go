package batch_test

import (
	"encoding/binary"
	"math"
	"math/rand"
	"regexp"
	"slices"
	"strconv"
	"strings"
	"testing"
	"unsafe"

	"twinlock/api"
	"twinlock/batch"
)

// The chapter's numbers.
const (
	maxOps   = 4
	maxValue = 32
	maxName  = 8
	maxKey   = 24
	maxPath  = 33
	maxIndex = 1 << 62
	maxEpoch = math.MaxInt
)

// huge is how many bytes, or operations, the longest texts and lists have.
const huge = 100_000

// isPath is the chapter's word of paths. It goes by runes, so that each byte is made a rune ahead.
var isPath = regexp.MustCompile(`\A([a-z]{1,8})/[^\x00/]{1,24}\z`)

// nameOf is the name of a path's mount, if it is a path.
func nameOf(p string) (string, bool) {
	if len(p) > maxPath {
		return "", false
	}
	var b strings.Builder
	for i := range len(p) {
		b.WriteRune(rune(p[i]))
	}
	m := isPath.FindStringSubmatch(b.String())
	if m == nil {
		return "", false
	}
	return m[1], true
}

// mountOf is the first mount of a path, and the error, if there is none.
func mountOf(l []api.Mount, p string) (m api.Mount, e api.Errno) {
	name, ok := nameOf(p)
	if !ok {
		return m, api.ErrKey
	}
	for _, m := range l {
		if m.Name == name {
			return m, api.OK
		}
	}
	return m, api.ErrMount
}

// faults are all errors of an operation whose path has the error e, in the row in which the chapter names them.
func faults(o api.Op, e api.Errno) (l []api.Errno) {
	if o.Kind != 1 && o.Kind != 2 {
		l = append(l, api.ErrKind)
	}
	if e != api.OK {
		l = append(l, e)
	}
	if len(o.Value) > 32 {
		l = append(l, api.ErrLong)
	}
	if o.Kind == 2 && len(o.Value) > 0 {
		l = append(l, api.ErrArg)
	}
	return l
}

// first is the first one of errors, OK of none.
func first(l []api.Errno) api.Errno {
	if len(l) == 0 {
		return api.OK
	}
	return l[0]
}

// mayOf is what May must tell.
func mayOf(l []api.Mount, ops []api.Op) api.Errno {
	var all []api.Errno
	if len(ops) == 0 {
		all = append(all, api.ErrArg)
	}
	if len(ops) > 4 {
		all = append(all, api.ErrLong)
	}
	for _, o := range ops {
		_, e := mountOf(l, o.Path)
		all = append(all, faults(o, e)...)
	}
	return first(all)
}

// rightOf is what Right must tell.
func rightOf(b api.Batch) api.Errno {
	var all []api.Errno
	if b.Index <= 0 || b.Epoch <= 0 || b.Index > maxIndex {
		all = append(all, api.ErrArg)
	}
	if len(b.Ops) > 4 {
		all = append(all, api.ErrLong)
	}
	for _, o := range b.Ops {
		e := api.OK
		if _, ok := nameOf(o.Path); !ok {
			e = api.ErrKey
		}
		all = append(all, faults(o, e)...)
	}
	return first(all)
}

// number, text and opBytes are bytes as the chapters say: of a number, of a text, of an operation.
func number(n uint64) string { return string(binary.AppendUvarint(nil, n)) }

func text(s string) string { return number(uint64(len(s))) + s }

func opBytes(o api.Op) string {
	s := string([]byte{o.Kind}) + text(o.Path)
	if o.Kind == 1 {
		s += text(o.Value)
	}
	return s
}

// numbers are a batch's numbers as bytes: Index, Epoch, how many.
func numbers(index, epoch, many uint64) string {
	return number(index) + number(epoch) + number(many)
}

// bytesOf is a batch's bytes, right or not.
func bytesOf(b api.Batch) string {
	s := numbers(uint64(b.Index), uint64(b.Epoch), uint64(len(b.Ops)))
	for _, o := range b.Ops {
		s += opBytes(o)
	}
	return s
}

// source is what was not read of bytes, and the first failure.
type source struct {
	rest string
	e    api.Errno
}

// fails keeps the first failure.
func (s *source) fails(e api.Errno) {
	if s.e == api.OK {
		s.e = e
	}
}

// number is the number that begins the rest.
func (s *source) number(most uint64) uint64 {
	if s.e != api.OK {
		return 0
	}
	end := 0
	for end < len(s.rest) && s.rest[end] >= 128 {
		end++
	}
	if end == len(s.rest) && end < 10 {
		s.fails(api.ErrShort)
		return 0
	}
	end = min(end, len(s.rest)-1)
	b := []byte(s.rest[:end+1])
	n, size := binary.Uvarint(b)
	// In another way than its own no number is written.
	if size <= 0 || n > most || number(n) != string(b) {
		s.fails(api.ErrForm)
		return 0
	}
	s.rest = s.rest[end+1:]
	return n
}

// bytes are the next n bytes.
func (s *source) bytes(n uint64) string {
	if s.e == api.OK && uint64(len(s.rest)) < n {
		s.fails(api.ErrShort)
	}
	if s.e != api.OK {
		return ""
	}
	b := s.rest[:n]
	s.rest = s.rest[n:]
	return b
}

// op is the operation that begins the rest.
func (s *source) op() (o api.Op) {
	if k := s.bytes(1); k != "" {
		o.Kind = k[0]
		if o.Kind < 1 || o.Kind > 2 {
			s.fails(api.ErrKind)
		}
	}
	o.Path = s.bytes(s.number(33))
	if o.Kind == 1 {
		o.Value = s.bytes(s.number(32))
	}
	return o
}

// readOf is what Read must tell.
func readOf(text string) (b api.Batch, e api.Errno) {
	s := &source{rest: text}
	b.Index = int(s.number(1 << 62))
	b.Epoch = int(s.number(1<<63 - 1))
	many := s.number(4)
	for range many {
		b.Ops = append(b.Ops, s.op())
	}
	if s.rest != "" {
		s.fails(api.ErrForm)
	}
	s.fails(rightOf(b))
	if s.e != api.OK {
		return api.Batch{}, s.e
	}
	return b, api.OK
}

// filterOf is what Filter must tell.
func filterOf(l []api.Mount, b api.Batch) api.Batch {
	b.Ops = slices.DeleteFunc(slices.Clone(b.Ops), func(o api.Op) bool {
		m, e := mountOf(l, o.Path)
		return e != api.OK || !m.Ship
	})
	return b
}

// sameOf is what Same must tell.
func sameOf(a, b api.Batch) bool {
	if a.Index != b.Index || a.Epoch != b.Epoch || len(a.Ops) != len(b.Ops) {
		return false
	}
	for i, o := range a.Ops {
		p := b.Ops[i]
		if o.Kind != p.Kind || o.Path != p.Path || o.Value != p.Value {
			return false
		}
	}
	return true
}

// isZero says whether a batch has nothing.
func isZero(b api.Batch) bool { return b.Index == 0 && b.Epoch == 0 && len(b.Ops) == 0 }

// What stands in the spare room of lists.
var (
	spareOp    = api.Op{Kind: 1, Path: "spare/x", Value: "spare"}
	spareMount = api.Mount{Name: "spare", Ship: true}
)

// roomy is a batch that is the same, whose operations have spare room, and all that room.
func roomy(b api.Batch) (api.Batch, []api.Op) {
	room := append(slices.Clone(b.Ops), spareOp, spareOp)
	b.Ops = room[:len(b.Ops)]
	return b, room
}

// stays asks whether operations in their room are what they were.
func stays(t *testing.T, room, ops []api.Op) {
	t.Helper()
	if !slices.Equal(room, append(slices.Clone(ops), spareOp, spareOp)) {
		t.Fatalf("%.300q became %.300q", show(api.Batch{Ops: ops}), show(api.Batch{Ops: room}))
	}
}

// withMounts lets a call be asked with mounts that have spare room, and looks whether the call changed them.
func withMounts(t *testing.T, l []api.Mount, call func(l []api.Mount)) {
	t.Helper()
	room := append(slices.Clone(l), spareMount, spareMount)
	call(room[:len(l)])
	if !slices.Equal(room, append(slices.Clone(l), spareMount, spareMount)) {
		t.Fatalf("mounts %v became %v", l, room)
	}
}

// mays asks May.
func mays(t *testing.T, l []api.Mount, ops ...api.Op) {
	t.Helper()
	maysTo(t, mayOf(l, ops), l, ops...)
}

// maysTo asks whether May tells that.
func maysTo(t *testing.T, want api.Errno, l []api.Mount, ops ...api.Op) {
	t.Helper()
	withMounts(t, l, func(l []api.Mount) {
		b, room := roomy(api.Batch{Ops: ops})
		if e := batch.May(l, b.Ops); e != want {
			t.Fatalf("May(%v, %.300q): %d, not %d", l, show(b), e, want)
		}
		stays(t, room, ops)
	})
}

// rights asks Right, and Bytes.
func rights(t *testing.T, b api.Batch) {
	t.Helper()
	rightsTo(t, rightOf(b), b)
}

// rightsTo asks whether Right tells that, and Bytes what goes with it; and Read of these bytes.
func rightsTo(t *testing.T, want api.Errno, b api.Batch) {
	t.Helper()
	own, room := roomy(b)
	if e := batch.Right(own); e != want {
		t.Fatalf("Right(%.300q): %d, not %d", show(b), e, want)
	}
	s, e := batch.Bytes(own)
	stays(t, room, b.Ops)
	if e != want {
		t.Fatalf("Bytes(%.300q): %d, not %d", show(b), e, want)
	}
	if want != api.OK {
		if s != "" {
			t.Fatalf("Bytes(%.300q): %q beside %d", show(b), s, e)
		}
		return
	}
	if s != bytesOf(b) {
		t.Fatalf("Bytes(%.300q): %x, not %x", show(b), s, bytesOf(b))
	}
	if c, e := batch.Read(s); e != api.OK || !sameOf(b, c) {
		t.Fatalf("Read(%x): %q, %d, not %q", s, show(c), e, show(b))
	}
}

// reads asks Read.
func reads(t *testing.T, s string) {
	t.Helper()
	want, e := readOf(s)
	readsTo(t, s, want, e)
}

// unread asks whether Read tells an error, and no batch.
func unread(t *testing.T, want api.Errno, s string) {
	t.Helper()
	if want == api.OK {
		t.Fatal("no error")
	}
	readsTo(t, s, api.Batch{}, want)
}

// readsTo asks whether Read tells that, and Bytes of it just the bytes.
func readsTo(t *testing.T, s string, want api.Batch, e api.Errno) {
	t.Helper()
	b, f := batch.Read(s)
	if f != e || !sameOf(b, want) {
		t.Fatalf("Read(%.300x) of %d bytes: %.300q, %d, not %.300q, %d", s, len(s), show(b), f, show(want), e)
	}
	if e != api.OK {
		if !isZero(b) {
			t.Fatalf("Read(%.300x): %q beside %d", s, show(b), f)
		}
		return
	}
	if e := batch.Right(b); e != api.OK {
		t.Fatalf("Read(%x): %q, of which Right tells %d", s, show(b), e)
	}
	if own, e := batch.Bytes(b); own != s || e != api.OK {
		t.Fatalf("Read(%x): %q, whose bytes are %x, %d", s, show(b), own, e)
	}
}

// filters asks Filter.
func filters(t *testing.T, l []api.Mount, b api.Batch) {
	t.Helper()
	filtersTo(t, l, b, filterOf(l, b))
}

// filtersTo asks whether Filter tells that, the second time, too; whether what is right stays so; and whose memory it is.
func filtersTo(t *testing.T, l []api.Mount, b, want api.Batch) {
	t.Helper()
	withMounts(t, l, func(l []api.Mount) {
		own, room := roomy(b)
		got := batch.Filter(l, own)
		if !sameOf(got, want) {
			t.Fatalf("Filter(%v, %.300q): %.300q, not %.300q", l, show(b), show(got), show(want))
		}
		twice := batch.Filter(l, got)
		if !sameOf(twice, want) {
			t.Fatalf("Filter(%v, %.300q) twice: %.300q, not %.300q", l, show(b), show(twice), show(want))
		}
		stays(t, room, b.Ops)
		if rightOf(b) == api.OK && batch.Right(got) != api.OK {
			t.Fatalf("Filter(%v, %.300q): %.300q isn't right", l, show(b), show(got))
		}
		// Whatever becomes of the answers, the others stay.
		clear(got.Ops[:cap(got.Ops)])
		stays(t, room, b.Ops)
		if !sameOf(twice, want) {
			t.Fatalf("Filter(%v, %.300q): both answers have one memory", l, show(b))
		}
		again := batch.Filter(l, own)
		clear(room)
		if !sameOf(again, want) {
			t.Fatalf("Filter(%v, %.300q): its memory is the batch's", l, show(b))
		}
	})
}

// sames asks Same, both ways round.
func sames(t *testing.T, a, b api.Batch) {
	t.Helper()
	samesTo(t, sameOf(a, b), a, b)
}

// samesTo asks whether Same tells that, both ways round.
func samesTo(t *testing.T, want bool, a, b api.Batch) {
	t.Helper()
	c, roomC := roomy(a)
	d, roomD := roomy(b)
	if batch.Same(c, d) != want || batch.Same(d, c) != want {
		t.Fatalf("Same(%.300q, %.300q): %v and %v, not %v", show(a), show(b), batch.Same(c, d), batch.Same(d, c), want)
	}
	stays(t, roomC, a.Ops)
	stays(t, roomD, b.Ops)
}

// show is a batch as words.
func show(b api.Batch) []string {
	l := []string{strconv.Itoa(b.Index), strconv.Itoa(b.Epoch)}
	for _, o := range b.Ops {
		l = append(l, strconv.Itoa(int(o.Kind)), o.Path, o.Value)
	}
	return l
}

// mounts are what words say: each name, with a ! behind it, if it is shipped.
func mounts(words ...string) (l []api.Mount) {
	for _, w := range words {
		name, ship := strings.CutSuffix(w, "!")
		l = append(l, api.Mount{Name: name, Ship: ship})
	}
	return l
}

// examples is the list L of the chapter's examples.
func examples() []api.Mount { return mounts("app!", "ops") }

// put, del and of are operations and batches in short.
func put(p, v string) api.Op { return api.Op{Kind: 1, Path: p, Value: v} }

func del(p string) api.Op { return api.Op{Kind: 2, Path: p} }

func of(index, epoch int, ops ...api.Op) api.Batch {
	return api.Batch{Index: index, Epoch: epoch, Ops: ops}
}

// usual are four operations that may be, of the examples' mounts.
func usual() []api.Op {
	return []api.Op{put("app/a", "1"), del("ops/b"), put("ops/\xff.c", ""), del("app/d")}
}

// letters is a text of n bytes of a to z, keyed one of n bytes of which none is 0 or /, valued one of odd bytes.
func letters(n int) string { return strings.Repeat("kqzamb", n/6+1)[:n] }

func keyed(n int) string { return strings.Repeat("k\xff.A \x01z", n/7+1)[:n] }

func valued(n int) string { return strings.Repeat("\x00\xffv/\x80\x01\x02", n/7+1)[:n] }

// longest is a path of as many bytes as there may be, all of one mount.
func longest() string { return letters(maxName) + "/" + keyed(maxKey) }

// noPaths are texts that are no path, some of them nearly one.
func noPaths() []string {
	return []string{"", "/", "//", "a", "app", "app/", "/db", "/app/db", "app//", "app//x", "app/a/b", "app/x/", "App/x", "apP/x", "a1/x", "a-b/x", " app/x", "app /x", "app/\x00", "app/a\x00", "\x00app/x", "app\x00/x", "\xff/x", "\xc3\xa4/x", "ninechars/x", letters(9) + "/" + keyed(23), "app/" + keyed(25), letters(8) + "/" + keyed(25), letters(33), strings.Repeat("/", 33), "app/" + letters(huge), letters(huge) + "/x", letters(huge)}
}

// goodPaths are paths, of many mounts.
func goodPaths() []string {
	return []string{"a/x", "z/z", "app/db", "app/\x01", "app/ ", "app/.", "app/\xff", "app/\xc3\x28", "app/\xc3\xa4", "app/A", "web/x", letters(8) + "/x", "a/" + keyed(24), longest(), strings.Repeat("z", 8) + "/" + strings.Repeat("\xff", 24)}
}

// edges are an Index's edges and an Epoch's, and others, right ones and wrong ones.
func edges() []int {
	return []int{math.MinInt, math.MinInt + 1, -1 << 62, -1, 0, 1, 2, 127, 128, 300, 16383, 16384, 1<<31 - 1, 1 << 31, 1<<32 - 1, 1 << 32, 1 << 56, 1<<62 - 1, 1 << 62, 1<<62 + 1, math.MaxInt - 1, math.MaxInt}
}

// textOn is a text whose bytes are those of b, and change with them.
func textOn(b []byte) string { return unsafe.String(unsafe.SliceData(b), len(b)) }

// some is a text of n bytes of an alphabet's.
func some(r *rand.Rand, n int, alphabet string) string {
	b := make([]byte, n)
	for i := range b {
		b[i] = alphabet[r.Intn(len(alphabet))]
	}
	return string(b)
}

// one of a list's, by chance.
func one[T any](r *rand.Rand, l []T) T { return l[r.Intn(len(l))] }

// short are all texts of up to n bytes of an alphabet's, told one by one.
func short(n int, alphabet string, tell func(s string)) {
	var grow func(b []byte)
	grow = func(b []byte) {
		tell(string(b))
		if len(b) == n {
			return
		}
		for i := range len(alphabet) {
			grow(append(b, alphabet[i]))
		}
	}
	grow(make([]byte, 0, n))
}

// lists are all lists of n operations out of some, told one by one.
func lists(n int, some []api.Op, tell func(ops []api.Op)) {
	var grow func(ops []api.Op)
	grow = func(ops []api.Op) {
		if len(ops) == n {
			tell(slices.Clone(ops))
			return
		}
		for _, o := range some {
			grow(append(ops, o))
		}
	}
	grow(make([]api.Op, 0, n))
}
