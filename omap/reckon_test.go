package omap_test

import (
	"math/rand"
	"slices"
	"strconv"
	"strings"
	"testing"
	"unsafe"

	"twinlock/api"
	"twinlock/omap"
)

// The document's numbers.
const (
	maxKeys  = 48
	maxOps   = 4
	maxValue = 32
)

// huge is how many bytes the longest texts have, or pairs the longest lists.
const huge = 100_000

// nameOf is the name of a path's mount, if it is a path.
func nameOf(p string) (string, bool) {
	l := strings.Split(p, "/")
	if len(l) != 2 || len(l[0]) < 1 || len(l[0]) > 8 || len(l[1]) < 1 || len(l[1]) > 24 {
		return "", false
	}
	if strings.Trim(l[0], "abcdefghijklmnopqrstuvwxyz") != "" || strings.IndexByte(l[1], 0) >= 0 {
		return "", false
	}
	return l[0], true
}

// shipped says whether a path is shipped: the first mount of its name counts.
func shipped(l []api.Mount, p string) bool {
	name, ok := nameOf(p)
	if !ok {
		return false
	}
	for _, m := range l {
		if m.Name == name {
			return m.Ship
		}
	}
	return false
}

// faults are all errors of an operation, in the row in which batch's chapter names them.
func faults(o api.Op) (l []api.Errno) {
	if o.Kind != 1 && o.Kind != 2 {
		l = append(l, api.ErrKind)
	}
	if _, ok := nameOf(o.Path); !ok {
		l = append(l, api.ErrKey)
	}
	if len(o.Value) > maxValue {
		l = append(l, api.ErrLong)
	}
	if o.Kind == 2 && o.Value != "" {
		l = append(l, api.ErrArg)
	}
	return l
}

// rightOf is what batch's Right must tell of operations.
func rightOf(ops []api.Op) api.Errno {
	if len(ops) > maxOps {
		return api.ErrLong
	}
	for _, o := range ops {
		if l := faults(o); len(l) > 0 {
			return l[0]
		}
	}
	return api.OK
}

// below says whether a text comes ahead of another one: at the first byte that differs, or as its beginning.
func below(a, b string) bool {
	for i := 0; i < len(a) && i < len(b); i++ {
		if a[i] != b[i] {
			return a[i] < b[i]
		}
	}
	return len(a) < len(b)
}

// history is a map as P13.6 tells it: all operations that were done, one behind the other.
type history []api.Op

// get is what the last operation of a path gave.
func (h history) get(p string) (string, bool) {
	for _, o := range slices.Backward(h) {
		if o.Path == p {
			return o.Value, o.Kind == api.Put
		}
	}
	return "", false
}

// all is the pairs, each put where it belongs among those that are there.
func (h history) all() (l []api.Pair) {
	seen := map[string]bool{}
	for _, o := range slices.Backward(h) {
		if seen[o.Path] {
			continue
		}
		seen[o.Path] = true
		if o.Kind == api.Put {
			i := 0
			for i < len(l) && below(l[i].Path, o.Path) {
				i++
			}
			l = slices.Insert(l, i, api.Pair{Path: o.Path, Value: o.Value})
		}
	}
	return l
}

// list is the paths that begin with a prefix.
func (h history) list(prefix string) (l []string) {
	for _, x := range h.all() {
		if len(x.Path) >= len(prefix) && x.Path[:len(prefix)] == prefix {
			l = append(l, x.Path)
		}
	}
	return l
}

// filter is what is left of the operations when all that is not shipped is let go.
func (h history) filter(l []api.Mount) (own history) {
	for _, o := range h {
		if shipped(l, o.Path) {
			own = append(own, o)
		}
	}
	return own
}

// do is what Do answers; what it does is behind it.
func (h *history) do(ops []api.Op) api.Errno {
	if e := rightOf(ops); e != api.OK {
		return e
	}
	next := append(slices.Clone(*h), ops...)
	if len(next.all()) > maxKeys {
		return api.ErrFull
	}
	*h = next
	return api.OK
}

// puts are the operations that put pairs.
func puts(l []api.Pair) (h history) {
	for _, x := range l {
		h = append(h, put(x.Path, x.Value))
	}
	return h
}

// ofOf is what Of must tell.
func ofOf(l []api.Pair) api.Errno {
	if len(l) > maxKeys {
		return api.ErrFull
	}
	for i, x := range l {
		if _, ok := nameOf(x.Path); !ok || len(x.Value) > maxValue {
			return api.ErrArg
		}
		if _, there := puts(l[:i]).get(x.Path); there {
			return api.ErrThere
		}
	}
	return api.OK
}

// asked is a map that is asked, and what was done to it.
type asked struct {
	m *omap.Map
	h history
}

// start is a new map.
func start(t *testing.T) *asked {
	t.Helper()
	a := &asked{m: omap.New()}
	if a.m == nil {
		t.Fatal("New is nil")
	}
	a.looks(t)
	return a
}

// with is a map of pairs.
func with(t *testing.T, l ...api.Pair) *asked {
	t.Helper()
	return ofTo(t, api.OK, l...)
}

// stands asks how the map stands: how many there are, all of them, one by one, and some paths that are not there.
func (a *asked) stands(t *testing.T) {
	t.Helper()
	want := a.h.all()
	if n := a.m.Len(); n != len(want) {
		t.Fatalf("Len is %d, not %d", n, len(want))
	}
	if l := a.m.All(); !slices.Equal(l, want) {
		t.Fatalf("All is %.999q, not %.999q", l, want)
	}
	a.lists(t, "")
	for _, x := range want {
		a.gets(t, x.Path)
	}
	for _, o := range a.h[max(0, len(a.h)-8):] {
		a.gets(t, o.Path)
	}
	for _, p := range []string{"", "app/a", "no/path", "app", "/"} {
		a.gets(t, p)
	}
}

// looks asks how the map stands, and what there is of many paths and prefixes.
func (a *asked) looks(t *testing.T) {
	t.Helper()
	a.stands(t)
	for _, l := range [][]string{goodPaths(), noPaths(), prefixes()} {
		for _, p := range l {
			a.gets(t, p)
			a.lists(t, p)
		}
	}
	for _, x := range a.h.all() {
		for i := range len(x.Path) + 1 {
			a.lists(t, x.Path[:i])
		}
		a.lists(t, x.Path+"/")
		a.gets(t, x.Path+"/")
		a.gets(t, x.Path[1:])
		a.gets(t, x.Path[:len(x.Path)-1])
	}
}

// gets asks Get.
func (a *asked) gets(t *testing.T, p string) {
	t.Helper()
	want, ok := a.h.get(p)
	if v, is := a.m.Get(p); v != want || is != ok {
		t.Fatalf("Get(%.99q): %q, %v, not %q, %v", p, v, is, want, ok)
	}
}

// lists asks List.
func (a *asked) lists(t *testing.T, prefix string) {
	t.Helper()
	want := a.h.list(prefix)
	if l := a.m.List(prefix); !slices.Equal(l, want) {
		t.Fatalf("List(%.99q): %.999q, not %.999q", prefix, l, want)
	}
}

// do asks Do, and how the map stands behind it.
func (a *asked) do(t *testing.T, ops ...api.Op) api.Errno {
	t.Helper()
	own, room := roomy(ops, spareOp)
	ahead := a.h
	want := a.h.do(ops)
	if a.m == nil {
		a.h, want = ahead, api.ErrNil
	}
	if e := a.m.Do(own); e != want {
		t.Fatalf("Do(%.300q) of %d paths: %d, not %d", show(ops), len(ahead.all()), e, want)
	}
	stays(t, room, ops, spareOp)
	a.stands(t)
	return want
}

// doTo asks whether Do tells that, and how the map stands behind it.
func (a *asked) doTo(t *testing.T, want api.Errno, ops ...api.Op) {
	t.Helper()
	if e := a.do(t, ops...); e != want {
		t.Fatalf("Do(%.300q): %d, not %d", show(ops), e, want)
	}
}

// twin asks Twin.
func (a *asked) twin(t *testing.T) *asked {
	t.Helper()
	b := &asked{a.m.Twin(), slices.Clone(a.h)}
	if b.m == nil || b.m == a.m {
		t.Fatal("Twin is nil, or the map itself")
	}
	a.stands(t)
	b.stands(t)
	a.sames(t, b, true)
	return b
}

// filter asks Filter.
func (a *asked) filter(t *testing.T, l []api.Mount) *asked {
	t.Helper()
	own, room := roomy(l, spareMount)
	b := &asked{a.m.Filter(own), a.h.filter(l)}
	stays(t, room, l, spareMount)
	if b.m == nil || b.m == a.m {
		t.Fatal("Filter is nil, or the map itself")
	}
	a.stands(t)
	b.stands(t)
	return b
}

// sames asks whether Same tells that, both ways round.
func (a *asked) sames(t *testing.T, b *asked, want bool) {
	t.Helper()
	if slices.Equal(a.h.all(), b.h.all()) != want {
		t.Fatalf("%.999q, %.999q are reckoned otherwise", a.h.all(), b.h.all())
	}
	if omap.Same(a.m, b.m) != want || omap.Same(b.m, a.m) != want {
		t.Fatalf("Same(%.999q, %.999q): %v and %v", a.m.All(), b.m.All(), omap.Same(a.m, b.m), omap.Same(b.m, a.m))
	}
	a.stands(t)
	b.stands(t)
}

// ofTo asks whether Of tells that, of the pairs in a list that has spare room; and a map of them, if there is no error.
func ofTo(t *testing.T, want api.Errno, l ...api.Pair) *asked {
	t.Helper()
	if e := ofOf(l); e != want {
		t.Fatalf("Of(%.300q) is reckoned %d, not %d", l, e, want)
	}
	own, room := roomy(l, sparePair)
	m, e := omap.Of(own)
	stays(t, room, l, sparePair)
	if e != want || (m == nil) != (want != api.OK) {
		t.Fatalf("Of(%.300q) of %d pairs: %d, nil %v, not %d", l, len(l), e, m == nil, want)
	}
	if e != api.OK {
		return nil
	}
	a := &asked{m, puts(l)}
	a.stands(t)
	clear(room)
	a.stands(t)
	return a
}

// What stands in the spare room of lists.
var (
	spareOp    = api.Op{Kind: 1, Path: "spare/x", Value: "spare"}
	sparePair  = api.Pair{Path: "spare/x", Value: "spare"}
	spareMount = api.Mount{Name: "spare", Ship: true}
)

// roomy is a list that is the same and has spare room, and all that room.
func roomy[T any](l []T, spare T) (same, room []T) {
	room = append(slices.Clone(l), spare, spare)
	return room[:len(l)], room
}

// stays asks whether a list in its room is what it was.
func stays[T comparable](t *testing.T, room, l []T, spare T) {
	t.Helper()
	if !slices.Equal(room, append(slices.Clone(l), spare, spare)) {
		t.Fatalf("%.300v became %.300v", l, room)
	}
}

// show is operations as words.
func show(ops []api.Op) (l []string) {
	for _, o := range ops {
		l = append(l, strconv.Itoa(int(o.Kind)), o.Path, o.Value)
	}
	return l
}

// put, del and pair are operations and pairs in short.
func put(p, v string) api.Op { return api.Op{Kind: 1, Path: p, Value: v} }

func del(p string) api.Op { return api.Op{Kind: 2, Path: p} }

func pair(p, v string) api.Pair { return api.Pair{Path: p, Value: v} }

// mounts are what words say: each name, with a ! behind it, if it is shipped.
func mounts(words ...string) (l []api.Mount) {
	for _, w := range words {
		name, ship := strings.CutSuffix(w, "!")
		l = append(l, api.Mount{Name: name, Ship: ship})
	}
	return l
}

// examples is the list L of the chapter's examples.
func examples() []api.Mount { return mounts("app!", "ops") }

// letters is a text of n bytes of a to z, keyed one of n bytes of which none is 0 or /, valued one of odd bytes.
func letters(n int) string { return strings.Repeat("kqzamb", n/6+1)[:n] }

func keyed(n int) string { return strings.Repeat("k\xff.A \x01z", n/7+1)[:n] }

func valued(n int) string { return strings.Repeat("\x00\xffv/\x80\x01\x02", n/7+1)[:n] }

// longest is a path of as many bytes as there may be.
func longest() string { return letters(8) + "/" + keyed(24) }

// numbered is the path i of a row of paths of three mounts, which neither rise nor fall.
func numbered(i int) string {
	c := byte(i*37 + 5)
	if c == 0 || c == '/' {
		c = 'q'
	}
	return [3]string{"ops", "app", "apps"}[i%3] + "/" + string([]byte{c}) + strconv.Itoa(i)
}

// many are pairs of n of these paths, the values of each length.
func many(n int) (l []api.Pair) {
	for i := range n {
		l = append(l, pair(numbered(i), valued((i*5)%(maxValue+1))))
	}
	return l
}

// noPaths are texts that are no path, some of them nearly one.
func noPaths() []string {
	return []string{"", "/", "//", "a", "app", "app/", "/db", "/app/db", "app//", "app//x", "app/a/b", "app/x/", "App/x", "apP/x", "a1/x", "app2/x", "a-b/x", " app/x", "app /x", "app/\x00", "app/a\x00", "\x00app/x", "app\x00/x", "\xff/x", "\xc3\xa4/x", "ninechars/x", letters(9) + "/" + keyed(23), "app/" + keyed(25), letters(8) + "/" + keyed(25), letters(33), strings.Repeat("/", 33), "app/" + letters(huge), letters(huge) + "/x", letters(huge)}
}

// goodPaths are paths, of many mounts; many begin with others, or come side by side.
func goodPaths() []string {
	return []string{"app/db", "a/x", "z/z", "app/\x01", "app/ ", "app/.", "app/0", "app/\x7f", "app/\x80", "app/\xff", "app/\xff\xff", "app/\xc3\x28", "app/\xc3\xa4", "app/A", "app/a", "app/a2", "app/a\x01", "app/aa", "app/b", "apps/a", "ap/a", "ops/b", "opsa/b", "web/x", letters(8) + "/x", "a/" + keyed(24), longest(), strings.Repeat("z", 8) + "/" + strings.Repeat("\xff", 24)}
}

// prefixes are texts that paths may begin with, and others.
func prefixes() []string {
	return []string{"", "a", "ap", "app", "app/", "app/a", "apps", "apps/", "app2", "app2/", "app/a2", "app/aa", "app/aaa", "app/\xc3", "app/\xc3\xa4", "app/\xff", "app/\xff\xff", "app/\xff\xff\xff", "\xff", "\x80", "\x00", "ops", "ops/", "op", "p", "pp/", "pp/a", "/", "/a", "App/", "z", "zz", "{", longest(), longest() + "x", longest()[:32], longest()[1:], letters(huge), "app/" + letters(huge)}
}

// textOn is a text whose bytes are those of b, and change with them.
func textOn(b []byte) string { return unsafe.String(unsafe.SliceData(b), len(b)) }

// bytesOf is a text's own bytes, for one that was made while the test ran.
func bytesOf(s string) []byte { return unsafe.Slice(unsafe.StringData(s), len(s)) }

// one of a list's, by chance.
func one[T any](r *rand.Rand, l []T) T { return l[r.Intn(len(l))] }

// rows are all rows of n operations out of some, told one by one.
func rows(n int, some []api.Op, tell func(ops []api.Op)) {
	var grow func(ops []api.Op)
	grow = func(ops []api.Op) {
		if len(ops) == n {
			tell(slices.Clone(ops))
			return
		}
		for _, o := range some {
			grow(append(ops, o))
		}
	}
	grow(make([]api.Op, 0, n))
}
