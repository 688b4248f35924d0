package tree_test

import (
	"crypto/sha256"
	"encoding/binary"
	"encoding/hex"
	"fmt"
	"maps"
	"math/rand"
	"slices"
	"strconv"
	"strings"
	"testing"
	"unsafe"

	"twinlock/api"
	"twinlock/tree"
)

// The document's numbers.
const (
	buckets  = 16
	depth    = 4
	count    = 31
	maxKeys  = 48
	maxValue = 32
)

// huge is how many bytes the longest texts have, or pairs the longest lists.
const huge = 100_000

// bucketOf is a text's bucket: the first one of its hash's digits.
func bucketOf(s string) int {
	h := sha256.Sum256([]byte(s))
	return strings.IndexByte("0123456789abcdef", hex.EncodeToString(h[:1])[0])
}

// isPath says whether a text is a path.
func isPath(p string) bool {
	l := strings.Split(p, "/")
	if len(l) != 2 || len(l[0]) < 1 || len(l[0]) > 8 || len(l[1]) < 1 || len(l[1]) > 24 {
		return false
	}
	return strings.Trim(l[0], "abcdefghijklmnopqrstuvwxyz") == "" && strings.IndexByte(l[1], 0) < 0
}

// below says whether a text comes ahead of another one: at the first byte that differs, or as its beginning.
func below(a, b string) bool {
	for i := 0; i < len(a) && i < len(b); i++ {
		if a[i] != b[i] {
			return a[i] < b[i]
		}
	}
	return len(a) < len(b)
}

// ofOf is what Of must tell of pairs.
func ofOf(l []api.Pair) api.Errno {
	for i, x := range l {
		if !isPath(x.Path) || len(x.Value) > maxValue || i > 0 && !below(l[i-1].Path, x.Path) {
			return api.ErrArg
		}
	}
	if len(l) > maxKeys {
		return api.ErrFull
	}
	return api.OK
}

// plain is paths and their values: what a tree must have.
type plain map[string]string

// plainOf is pairs so.
func plainOf(l []api.Pair) plain {
	has := plain{}
	for _, x := range l {
		has[x.Path] = x.Value
	}
	return has
}

// rising is the pairs, each put where it belongs among the others.
func (has plain) rising() (l []api.Pair) {
	for p, v := range has {
		i := 0
		for i < len(l) && below(l[i].Path, p) {
			i++
		}
		l = slices.Insert(l, i, pair(p, v))
	}
	return l
}

// faults are all errors of a Set, in the row in which P15.2 names them.
func (has plain) faults(p, v string) (l []api.Errno) {
	if has == nil {
		l = append(l, api.ErrNil)
	}
	if !isPath(p) {
		l = append(l, api.ErrKey)
	}
	if len(v) > maxValue {
		l = append(l, api.ErrLong)
	}
	if _, there := has[p]; !there && len(has) == maxKeys {
		l = append(l, api.ErrFull)
	}
	return l
}

// number and text are bytes as pack's chapter says.
func number(n int) string { return string(binary.AppendUvarint(nil, uint64(n))) }

func text(s string) string { return number(len(s)) + s }

// pageOf is the page of a bucket's pairs.
func pageOf(l ...api.Pair) string {
	var b strings.Builder
	b.WriteString(number(len(l)))
	for _, x := range l {
		b.WriteString(text(x.Path) + text(x.Value))
	}
	return b.String()
}

// hashOf is a text's hash.
func hashOf(s string) api.Hash { return sha256.Sum256([]byte(s)) }

// spot is where a node stands.
type spot struct{ level, i int }

// isSpot says whether there is such a node.
func isSpot(s spot) bool {
	return s.level >= 0 && s.level <= 4 && s.i >= 0 && s.i < []int{1, 2, 4, 8, 16}[s.level]
}

// spots are all 31, in the row of P15.4.
func spots() (l []spot) {
	for level := 4; level >= 0; level-- {
		for i := range []int{1, 2, 4, 8, 16}[level] {
			l = append(l, spot{level, i})
		}
	}
	return l
}

// told is all that a tree tells of itself; nodes and texts are in the row of the spots.
type told struct {
	nodes [count]api.Hash
	root  api.Hash
	parts [buckets][]api.Pair
	all   []api.Pair
	texts []string
}

// reckoned is what a tree of pairs must tell: it is grown whole, from the root down.
func reckoned(l []api.Pair) (w told) {
	w.all = slices.Clone(l)
	for _, x := range l {
		i := bucketOf(x.Path)
		w.parts[i] = append(w.parts[i], x)
	}
	texts := map[spot]string{}
	var grow func(s spot) api.Hash
	grow = func(s spot) api.Hash {
		if s.level == depth {
			texts[s] = "L" + pageOf(w.parts[s.i]...)
		} else {
			left, right := grow(spot{s.level + 1, 2 * s.i}), grow(spot{s.level + 1, 2*s.i + 1})
			texts[s] = "N" + string(left[:]) + string(right[:])
		}
		return hashOf(texts[s])
	}
	w.root = grow(spot{})
	for k, s := range spots() {
		w.nodes[k] = hashOf(texts[s])
		w.texts = append(w.texts, texts[s])
	}
	return w
}

// tell is what a tree tells.
func tell(x *tree.Tree) (w told) {
	for k, s := range spots() {
		h, ok := x.Node(s.level, s.i)
		if ok {
			w.nodes[k] = h
		}
	}
	w.root = x.Root()
	for i := range buckets {
		w.parts[i] = x.Pairs(i)
	}
	w.all = x.All()
	w.texts = x.Texts()
	return w
}

// differs says in which of all that it tells one differs from another one, or nothing.
func (w told) differs(from told) string {
	switch {
	case w.root != from.root:
		return "the root"
	case w.nodes != from.nodes:
		return "a node"
	case !slices.Equal(w.all, from.all):
		return "all pairs " + show(w.all) + ", not " + show(from.all)
	case !slices.Equal(w.texts, from.texts):
		return "the texts " + fmt.Sprintf("%d, %.200q, not %.200q", len(w.texts), w.texts, from.texts)
	}
	for i := range buckets {
		if !slices.Equal(w.parts[i], from.parts[i]) {
			return "the bucket " + strconv.Itoa(i) + ": " + show(w.parts[i]) + ", not " + show(from.parts[i])
		}
	}
	return ""
}

// spoil writes into all that was told: into the lists with their spare room, and into their texts' own bytes.
func (w told) spoil() {
	for _, l := range append(w.parts[:], w.all) {
		for _, x := range l {
			clear(bytesOf(x.Path))
			clear(bytesOf(x.Value))
		}
		l = l[:cap(l)]
		for i := range l {
			l[i] = pair("spoilt", "spoilt")
		}
	}
	for _, s := range w.texts {
		clear(bytesOf(s))
	}
	l := w.texts[:cap(w.texts)]
	for i := range l {
		l[i] = "spoilt"
	}
}

// asked is a tree that is asked, and what it must have: nil, if it is a nil tree.
type asked struct {
	x   *tree.Tree
	has plain
}

// start is a new tree.
func start(t *testing.T) *asked {
	t.Helper()
	a := &asked{tree.New(), plain{}}
	if a.x == nil {
		t.Fatal("New is nil")
	}
	a.stands(t)
	return a
}

// with is a tree of pairs.
func with(t *testing.T, l ...api.Pair) *asked {
	t.Helper()
	return ofTo(t, api.OK, l...)
}

// ofTo asks whether Of tells that, of the pairs in a list that has spare room and is written over behind it; and how a tree of them stands, if there is no error.
func ofTo(t *testing.T, want api.Errno, l ...api.Pair) *asked {
	t.Helper()
	if e := ofOf(l); e != want {
		t.Fatalf("Of(%s) is reckoned %d, not %d", show(l), e, want)
	}
	stays := append(slices.Clone(l), spare, spare)
	room := slices.Clone(stays)
	x, e := tree.Of(room[:len(l)])
	if !slices.Equal(room, stays) {
		t.Fatalf("Of: %s became %s", show(stays), show(room))
	}
	if e != want || (x == nil) != (want != api.OK) {
		t.Fatalf("Of(%s): %d, nil %v, not %d", show(l), e, x == nil, want)
	}
	if e != api.OK {
		return nil
	}
	a := &asked{x, plainOf(l)}
	a.stands(t)
	clear(room)
	a.stands(t)
	return a
}

// stands asks all that the tree tells, also behind what becomes of it elsewhere, and some nodes and buckets that there are not.
func (a *asked) stands(t *testing.T) {
	t.Helper()
	var want told
	if a.has != nil {
		want = reckoned(a.has.rising())
	}
	twice := [2]told{tell(a.x), tell(a.x)}
	for _, w := range twice {
		if s := w.differs(want); s != "" {
			t.Fatalf("of %d pairs: %s", len(a.has), s)
		}
		w.spoil()
	}
	if s := tell(a.x).differs(want); s != "" {
		t.Fatalf("of %d pairs, when what was told is written over: %s", len(a.has), s)
	}
	for _, s := range spots() {
		if _, ok := a.x.Node(s.level, s.i); ok != (a.has != nil) {
			t.Fatalf("Node(%d, %d): %v", s.level, s.i, ok)
		}
	}
	for _, s := range []spot{{-1, 0}, {0, -1}, {0, 1}, {1, 2}, {2, 4}, {3, 8}, {4, -1}, {4, 16}, {5, 0}} {
		a.none(t, s)
	}
	a.empty(t, -1)
	a.empty(t, buckets)
}

// looks asks how the tree stands, and every number that is no node's and no bucket's.
func (a *asked) looks(t *testing.T) {
	t.Helper()
	a.stands(t)
	for _, level := range numbers() {
		for _, i := range numbers() {
			if s := (spot{level, i}); !isSpot(s) || a.has == nil {
				a.none(t, s)
			}
		}
	}
	for _, i := range numbers() {
		if i < 0 || i > 15 || a.has == nil {
			a.empty(t, i)
		}
	}
}

// none asks for a node that there is not.
func (a *asked) none(t *testing.T, s spot) {
	t.Helper()
	if h, ok := a.x.Node(s.level, s.i); ok || h != (api.Hash{}) {
		t.Fatalf("Node(%d, %d): %x, %v", s.level, s.i, h, ok)
	}
}

// empty asks for a bucket that there is not.
func (a *asked) empty(t *testing.T, i int) {
	t.Helper()
	if l := a.x.Pairs(i); len(l) > 0 {
		t.Fatalf("Pairs(%d): %s", i, show(l))
	}
}

// set asks Set.
func (a *asked) set(t *testing.T, p, v string) api.Errno {
	t.Helper()
	want := append(a.has.faults(p, v), api.OK)[0]
	if e := a.x.Set(p, v); e != want {
		t.Fatalf("Set(%.99q, %.99q) to %d pairs: %d, not %d", p, v, len(a.has), e, want)
	}
	if want == api.OK {
		a.has[p] = v
	}
	return want
}

// setTo asks whether Set tells that, and how the tree stands behind it.
func (a *asked) setTo(t *testing.T, want api.Errno, p, v string) {
	t.Helper()
	if e := a.set(t, p, v); e != want {
		t.Fatalf("Set(%.99q, %.99q) to %d pairs: %d, not %d", p, v, len(a.has), e, want)
	}
	a.stands(t)
}

// sets sets pairs, one behind the other.
func (a *asked) sets(t *testing.T, l ...api.Pair) {
	t.Helper()
	for _, x := range l {
		a.setTo(t, api.OK, x.Path, x.Value)
	}
}

// drop asks Drop.
func (a *asked) drop(t *testing.T, p string) bool {
	t.Helper()
	_, want := a.has[p]
	if there := a.x.Drop(p); there != want {
		t.Fatalf("Drop(%.99q) of %d pairs: %v", p, len(a.has), there)
	}
	delete(a.has, p)
	return want
}

// dropTo asks whether Drop tells that, and how the tree stands behind it.
func (a *asked) dropTo(t *testing.T, want bool, l ...string) {
	t.Helper()
	for _, p := range l {
		if there := a.drop(t, p); there != want {
			t.Fatalf("Drop(%.99q) of %d pairs: %v", p, len(a.has), there)
		}
		a.stands(t)
	}
}

// twin asks Twin.
func (a *asked) twin(t *testing.T) *asked {
	t.Helper()
	b := &asked{a.x.Twin(), maps.Clone(a.has)}
	if b.x == nil || b.x == a.x {
		t.Fatal("Twin is nil, or the tree itself")
	}
	a.stands(t)
	b.stands(t)
	return b
}

// spare stands in the spare room of lists.
var spare = api.Pair{Path: "spare/x", Value: "spare"}

// show is a list as words: of a long one its beginning.
func show(l []api.Pair) string {
	return strconv.Itoa(len(l)) + " pairs " + fmt.Sprintf("%.40q", l[:min(len(l), maxKeys+2)])
}

// pair is a pair in short.
func pair(p, v string) api.Pair { return api.Pair{Path: p, Value: v} }

// letters is a text of n bytes of a to z, keyed one of n bytes of which none is 0 or /, valued one of odd bytes.
func letters(n int) string { return strings.Repeat("kqzamb", n/6+1)[:n] }

func keyed(n int) string { return strings.Repeat("k\xff.A \x01z", n/7+1)[:n] }

func valued(n int) string { return strings.Repeat("\x00\xffv/\x80\x01\x02", n/7+1)[:n] }

// longest is a path of as many bytes as there may be.
func longest() string { return letters(8) + "/" + keyed(24) }

// noPaths are texts that are no path, some of them nearly one.
func noPaths() []string {
	return []string{"", "/", "//", "a", "app", "app/", "/db", "/app/db", "app//", "app//x", "app/a/b", "app/x/", "App/x", "apP/x", "a1/x", "app2/x", "a-b/x", " app/x", "app /x", "app/\x00", "app/a\x00", "\x00app/x", "app\x00/x", "\xff/x", "\xc3\xa4/x", "ninechars/x", letters(9) + "/" + keyed(23), "app/" + keyed(25), letters(8) + "/" + keyed(25), letters(33), strings.Repeat("/", 33), "app/" + letters(huge), letters(huge) + "/x", letters(huge)}
}

// goodPaths are paths, rising; many begin with others, or come side by side.
func goodPaths() []string {
	return []string{"a/" + keyed(24), "a/x", "ap/a", "app/\x01", "app/ ", "app/.", "app/0", "app/A", "app/a", "app/a\x01", "app/a2", "app/aa", "app/b", "app/db", "app/\x7f", "app/\x80", "app/\xc3\x28", "app/\xc3\xa4", "app/\xff", "app/\xff\xff", "apps/a", longest(), letters(8) + "/x", "ops/b", "opsa/b", "web/x", "z/z", strings.Repeat("z", 8) + "/" + strings.Repeat("\xff", 24)}
}

// oneEach are paths of the sixteen buckets, in the buckets' row; which they are another program reckoned.
func oneEach() []string {
	return []string{"app/5", "app/20", "app/13", "app/12", "app/1", "app/37", "app/16", "app/14", "app/3", "app/6", "app/32", "app/4", "app/2", "app/18", "app/9", "app/11"}
}

// numbers are levels, nodes and buckets, right ones and wrong ones: the edges of each level, and what wraps round to right ones.
func numbers() []int {
	l := []int{-1 << 63, -1<<63 + 1, -1<<63 + 4, -1 << 32, -1<<32 + 1, -1 << 31, -256, -255, -33, -32, -31, -17, -16, -15, -9, -8, -5, -4, -3, -2}
	for i := -1; i <= 18; i++ {
		l = append(l, i)
	}
	return append(l, 29, 30, 31, 32, 33, 62, 63, 64, 65, 68, 127, 128, 255, 256, 256+3, 1<<16, 1<<31-1, 1<<31, 1<<32, 1<<32+3, 1<<32+4, 1<<62, 1<<63-2, 1<<63-1)
}

// many are n pairs that may be, of all buckets, the values of each length.
func many(n int) (l []api.Pair) {
	for i := range n {
		l = append(l, pair("app/"+strconv.Itoa(1_000_000+i), valued(i*5%(maxValue+1))))
	}
	return l
}

// inOne are n pairs of one bucket that may be.
func inOne(i, n int) []api.Pair {
	l := many(n*20 + 400)
	return slices.DeleteFunc(l, func(x api.Pair) bool { return bucketOf(x.Path) != i })[:n]
}

// textOn is a text whose bytes are those of b, and change with them.
func textOn(b []byte) string { return unsafe.String(unsafe.SliceData(b), len(b)) }

// bytesOf is a text's own bytes, for one that was made while the test ran.
func bytesOf(s string) []byte { return unsafe.Slice(unsafe.StringData(s), len(s)) }

// one of a list's, by chance.
func one[T any](r *rand.Rand, l []T) T { return l[r.Intn(len(l))] }
