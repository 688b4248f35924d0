package walk_test

import (
	"crypto/sha256"
	"encoding/binary"
	"encoding/hex"
	"fmt"
	"math/rand"
	"slices"
	"strconv"
	"strings"
	"testing"
	"unsafe"

	"twinlock/api"
	"twinlock/tree"
	"twinlock/walk"
)

// The document's numbers.
const (
	buckets  = 16
	depth    = 4
	count    = 31
	maxKeys  = 48
	maxValue = 32
)

// huge is how many bytes the longest texts have, or pairs the longest lists; most is the greatest int, least the least one.
const (
	huge  = 100_000
	most  = 1<<63 - 1
	least = -1 << 63
)

// bucketOf is a text's bucket: the first one of its hash's digits.
func bucketOf(s string) int {
	h := sha256.Sum256([]byte(s))
	return strings.IndexByte("0123456789abcdef", hex.EncodeToString(h[:1])[0])
}

// isPath says whether a text is a path.
func isPath(p string) bool {
	l := strings.Split(p, "/")
	if len(l) != 2 || len(l[0]) < 1 || len(l[0]) > 8 || len(l[1]) < 1 || len(l[1]) > 24 {
		return false
	}
	return strings.Trim(l[0], "abcdefghijklmnopqrstuvwxyz") == "" && strings.IndexByte(l[1], 0) < 0
}

// below says whether a text comes ahead of another one: at the first byte that differs, or as its beginning.
func below(a, b string) bool {
	for i := 0; i < len(a) && i < len(b); i++ {
		if a[i] != b[i] {
			return a[i] < b[i]
		}
	}
	return len(a) < len(b)
}

// may says whether pairs may be.
func may(l []api.Pair) bool {
	for i, x := range l {
		if !isPath(x.Path) || len(x.Value) > maxValue || i > 0 && !below(l[i-1].Path, x.Path) {
			return false
		}
	}
	return true
}

// faultOf is what New must tell of a base.
func faultOf(l []api.Pair) api.Errno {
	switch {
	case !may(l):
		return api.ErrArg
	case len(l) > maxKeys:
		return api.ErrFull
	}
	return api.OK
}

// havePage says whether pairs have a page of a bucket.
func havePage(i int, l []api.Pair) bool {
	for _, x := range l {
		if bucketOf(x.Path) != i {
			return false
		}
	}
	return i >= 0 && i < buckets && may(l) && len(l) <= maxKeys
}

// number and text are bytes as pack's chapter says.
func number(n int) string { return string(binary.AppendUvarint(nil, uint64(n))) }

func text(s string) string { return number(len(s)) + s }

// leafText is the text of a leaf of pairs, whatever they are.
func leafText(l []api.Pair) string {
	var b strings.Builder
	b.WriteString("L" + number(len(l)))
	for _, x := range l {
		b.WriteString(text(x.Path) + text(x.Value))
	}
	return b.String()
}

// nodeText is the text of a node above two others.
func nodeText(left, right api.Hash) string {
	return "N" + string(slices.Concat(left[:], right[:]))
}

// hashOf is a text's hash.
func hashOf(s string) api.Hash { return sha256.Sum256([]byte(s)) }

// top is where the root stands.
var top = walk.Ask{}

// spots are all 31 places, by their level, then by their number.
func spots() (l []walk.Ask) {
	for level, n := range []int{1, 2, 4, 8, 16} {
		for i := range n {
			l = append(l, walk.Ask{Level: level, I: i})
		}
	}
	return l
}

// above is the place above another one.
func above(s walk.Ask) walk.Ask { return walk.Ask{Level: s.Level - 1, I: s.I / 2} }

// kids are the places of a node's kids.
func kids(s walk.Ask) (left, right walk.Ask) {
	return walk.Ask{Level: s.Level + 1, I: s.I + s.I}, walk.Ask{Level: s.Level + 1, I: s.I + s.I + 1}
}

// goal is a tree, or what only looks like one: its nodes, and the pairs of its leaves.
type goal struct {
	nodes map[walk.Ask]api.Hash
	parts [buckets][]api.Pair
}

// lifted is the goal with all nodes made anew that are above the leaves.
func (g *goal) lifted() *goal {
	for _, s := range slices.Backward(spots()[:count-buckets]) {
		g.nodes[s] = hashOf(nodeText(g.kids(s)))
	}
	return g
}

// kids are a node's kids.
func (g *goal) kids(s walk.Ask) (left, right api.Hash) {
	l, r := kids(s)
	return g.nodes[l], g.nodes[r]
}

// root is the root.
func (g *goal) root() api.Hash { return g.nodes[top] }

// goalOf is the tree of pairs, however many they are.
func goalOf(l ...api.Pair) *goal {
	g := &goal{nodes: map[walk.Ask]api.Hash{}}
	for _, x := range l {
		i := bucketOf(x.Path)
		g.parts[i] = append(g.parts[i], x)
	}
	for i := range buckets {
		g.nodes[walk.Ask{Level: depth, I: i}] = hashOf(leafText(g.parts[i]))
	}
	return g.lifted()
}

// with is another goal that has other pairs at a leaf, whatever they are.
func (g *goal) with(i int, l ...api.Pair) *goal {
	other := g.withLeaf(i, hashOf(leafText(l)))
	other.parts[i] = l
	return other
}

// withLeaf is another goal that has another hash at a leaf.
func (g *goal) withLeaf(i int, h api.Hash) *goal {
	other := &goal{nodes: map[walk.Ask]api.Hash{}, parts: g.parts}
	for s, h := range g.nodes {
		other.nodes[s] = h
	}
	other.nodes[walk.Ask{Level: depth, I: i}] = h
	return other.lifted()
}

// rooted is a goal of which nothing is known but the root.
func rooted(h api.Hash) *goal { return &goal{nodes: map[walk.Ask]api.Hash{top: h}} }

// pairs are the goal's, each put where it belongs among the others.
func (g *goal) pairs() []api.Pair { return rising(slices.Concat(g.parts[:]...)) }

// rising is pairs in their row.
func rising(of []api.Pair) (l []api.Pair) {
	for _, x := range of {
		i := 0
		for i < len(l) && below(l[i].Path, x.Path) {
			i++
		}
		l = slices.Insert(l, i, x)
	}
	return l
}

// texts are the texts of the goal's nodes: of the leaves, then level by level upward.
func (g *goal) texts() (l []string) {
	for _, part := range g.parts {
		l = append(l, leafText(part))
	}
	for level := depth - 1; level >= 0; level-- {
		for i := range []int{1, 2, 4, 8}[level] {
			l = append(l, nodeText(g.kids(walk.Ask{Level: level, I: i})))
		}
	}
	return l
}

// answer is one that fitted.
type answer struct {
	to   walk.Ask
	text string
	l    []api.Pair
}

// asked is a walk that is asked, and all that it hangs on: where it begins, where it leads, and the answers that fitted, in their row; and which nodes it ever asked for. Of a nil walk there is neither beginning nor goal.
type asked struct {
	w        *walk.Walk
	from, to *goal
	fitted   []answer
	ever     map[walk.Ask]bool
}

// had is the answer to a place, if one fitted.
func (a *asked) had(s walk.Ask) (answer, bool) {
	for _, x := range a.fitted {
		if x.to == s {
			return x, true
		}
	}
	return answer{}, false
}

// wants is what must be asked for: what differs from the beginning, under what was answered, and was not answered itself.
func (a *asked) wants() (l []walk.Ask) {
	if a.to == nil {
		return nil
	}
	for _, s := range spots() {
		_, is := a.had(s)
		_, open := a.had(above(s))
		if a.from.nodes[s] != a.to.nodes[s] && !is && (s == top || open) {
			l = append(l, s)
		}
	}
	return l
}

// told is all that a walk tells of itself.
type told struct {
	want  []walk.Ask
	pairs []api.Pair
	done  bool
	root  api.Hash
	texts []string
}

// reckoned is what the walk must tell.
func (a *asked) reckoned() (w told) {
	if a.to == nil {
		return w
	}
	w.want, w.root = a.wants(), a.to.root()
	w.texts = a.from.texts()
	for _, x := range a.fitted {
		w.texts = append(w.texts, x.text)
	}
	if len(w.want) > 0 {
		return w
	}
	var l []api.Pair
	for i, part := range a.from.parts {
		if x, is := a.had(walk.Ask{Level: depth, I: i}); is {
			part = x.l
		}
		l = append(l, part...)
	}
	if len(l) <= maxKeys {
		w.done, w.pairs = true, rising(l)
	}
	return w
}

// tell is what a walk tells.
func tell(x *walk.Walk) (w told) {
	w.want = x.Want(most)
	w.pairs, w.done = x.Done()
	w.root = x.Root()
	w.texts = x.Texts()
	return w
}

// differs says in which of all that it tells one differs from another one, or nothing.
func (w told) differs(from told) string {
	switch {
	case !slices.Equal(w.want, from.want):
		return fmt.Sprint("it asks for ", w.want, ", not ", from.want)
	case w.done != from.done:
		return fmt.Sprint("done is ", w.done)
	case !slices.Equal(w.pairs, from.pairs):
		return "the pairs are " + show(w.pairs) + ", not " + show(from.pairs)
	case w.root != from.root:
		return fmt.Sprintf("the root is %x, not %x", w.root, from.root)
	case !slices.Equal(w.texts, from.texts):
		return fmt.Sprintf("the texts are %d, %.200q, not %d, %.200q", len(w.texts), w.texts, len(from.texts), from.texts)
	}
	return ""
}

// spoil writes into all that was told: into the lists with their spare room, and into their texts' own bytes.
func (w told) spoil() {
	spoilt(w.want, walk.Ask{Level: 3, I: 3})
	for _, x := range w.pairs {
		clear(bytesOf(x.Path))
		clear(bytesOf(x.Value))
	}
	spoilt(w.pairs, pair("spoilt", "spoilt"))
	for _, s := range w.texts {
		clear(bytesOf(s))
	}
	spoilt(w.texts, "spoilt")
}

// spoilt writes one thing all over a list, its spare room too.
func spoilt[T any](l []T, x T) {
	l = l[:cap(l)]
	for i := range l {
		l[i] = x
	}
}

// stands asks all that the walk tells, also behind what becomes of it elsewhere; and what follows of it.
func (a *asked) stands(t *testing.T) {
	t.Helper()
	want := a.reckoned()
	twice := [2]told{tell(a.w), tell(a.w)}
	for _, w := range twice {
		if s := w.differs(want); s != "" {
			t.Fatalf("behind %d answers %s", len(a.fitted), s)
		}
		w.spoil()
	}
	if s := tell(a.w).differs(want); s != "" {
		t.Fatalf("behind %d answers, when what was told is written over, %s", len(a.fitted), s)
	}
	for _, s := range want.want {
		a.ever[s] = true
	}
	if len(a.ever) > count {
		t.Fatalf("%d nodes were asked for", len(a.ever))
	}
	if want.done {
		a.level(t)
	}
}

// level asks whether the root of a tree of the pairs is the one that was wanted.
func (a *asked) level(t *testing.T) {
	t.Helper()
	l, _ := a.w.Done()
	x, e := tree.Of(l)
	if e != api.OK || x.Root() != a.w.Root() || goalOf(l...).root() != a.w.Root() {
		t.Fatalf("the walk to %x is done with %s", a.w.Root(), show(l))
	}
}

// looks asks how the walk stands, and for each number how many of those are told that are asked for.
func (a *asked) looks(t *testing.T) {
	t.Helper()
	a.stands(t)
	want := a.wants()
	for _, n := range numbers() {
		l := a.w.Want(n)
		if !slices.Equal(l, want[:min(max(n, 0), len(want))]) {
			t.Fatalf("Want(%d): %v, of %v", n, l, want)
		}
		spoilt(l, walk.Ask{Level: 3, I: 3})
	}
	a.stands(t)
}

// newTo asks whether New tells that error, of a base in a list that has spare room and is written over behind it; and how the walk stands, if there is none.
func newTo(t *testing.T, want api.Errno, to *goal, base ...api.Pair) *asked {
	t.Helper()
	if e := faultOf(base); e != want {
		t.Fatalf("New(%s) is reckoned %d, not %d", show(base), e, want)
	}
	stays := append(slices.Clone(base), spare, spare)
	room := slices.Clone(stays)
	w, e := walk.New(room[:len(base)], to.root())
	if !slices.Equal(room, stays) {
		t.Fatalf("New: %s became %s", show(stays), show(room))
	}
	if e != want || (w == nil) != (want != api.OK) {
		t.Fatalf("New(%s): %d, nil %v, not %d", show(base), e, w == nil, want)
	}
	if e != api.OK {
		return nil
	}
	a := &asked{w: w, from: goalOf(base...), to: to, ever: map[walk.Ask]bool{}}
	a.stands(t)
	clear(room)
	a.stands(t)
	return a
}

// start is a walk from a base to a goal.
func start(t *testing.T, to *goal, base ...api.Pair) *asked {
	t.Helper()
	return newTo(t, api.OK, to, base...)
}

// fits says whether an answer of that text fits.
func (a *asked) fits(s walk.Ask, text string) bool {
	return slices.Contains(a.wants(), s) && hashOf(text) == a.to.nodes[s]
}

// node asks Node, and tells what it must have told.
func (a *asked) node(t *testing.T, level, i int, left, right api.Hash) bool {
	t.Helper()
	s, text := walk.Ask{Level: level, I: i}, nodeText(left, right)
	want := level < depth && a.fits(s, text)
	if ok := a.w.Node(level, i, left, right); ok != want {
		t.Fatalf("Node(%d, %d, %x, %x) behind %d answers: %v", level, i, left, right, len(a.fitted), ok)
	}
	if want {
		a.ever[s] = true
		a.fitted = append(a.fitted, answer{to: s, text: text})
	}
	return want
}

// page asks Page with pairs that have spare room, and are written over behind it; and tells what it must have told.
func (a *asked) page(t *testing.T, i int, l ...api.Pair) bool {
	t.Helper()
	s, text := walk.Ask{Level: depth, I: i}, leafText(l)
	want := havePage(i, l) && a.fits(s, text)
	stays := append(slices.Clone(l), spare, spare)
	room := slices.Clone(stays)
	ok := a.w.Page(i, room[:len(l)])
	if !slices.Equal(room, stays) {
		t.Fatalf("Page: %s became %s", show(stays), show(room))
	}
	if ok != want {
		t.Fatalf("Page(%d, %s) behind %d answers: %v", i, show(l), len(a.fitted), ok)
	}
	clear(room)
	if want {
		a.ever[s] = true
		a.fitted = append(a.fitted, answer{to: s, text: text, l: slices.Clone(l)})
	}
	return want
}

// nodeTo and pageTo ask whether an answer is told to fit or not, and how the walk stands behind it.
func (a *asked) nodeTo(t *testing.T, want bool, level, i int, left, right api.Hash) {
	t.Helper()
	if ok := a.node(t, level, i, left, right); ok != want {
		t.Fatalf("Node(%d, %d, %x, %x) behind %d answers: %v", level, i, left, right, len(a.fitted), ok)
	}
	a.stands(t)
}

func (a *asked) pageTo(t *testing.T, want bool, i int, l ...api.Pair) {
	t.Helper()
	if ok := a.page(t, i, l...); ok != want {
		t.Fatalf("Page(%d, %s) behind %d answers: %v", i, show(l), len(a.fitted), ok)
	}
	a.stands(t)
}

// gives gives what a goal has at a place as the answer to another one of the same level, and tells whether it fitted.
func (a *asked) gives(t *testing.T, from *goal, s, to walk.Ask) bool {
	t.Helper()
	if s.Level == depth {
		return a.page(t, to.I, from.parts[s.I]...)
	}
	left, right := from.kids(s)
	return a.node(t, to.Level, to.I, left, right)
}

// answers gives the goal's own answers to what is asked for, each of which must fit.
func (a *asked) answers(t *testing.T, l ...walk.Ask) {
	t.Helper()
	for _, s := range l {
		if !a.gives(t, a.to, s, s) {
			t.Fatalf("to %v the answer doesn't fit", s)
		}
		a.stands(t)
	}
}

// leads answers all that is asked for, whichever is picked next, till nothing is; then the walk is done, and has the goal's pairs.
func (a *asked) leads(t *testing.T, pick func(l []walk.Ask) walk.Ask) {
	t.Helper()
	for l := a.wants(); len(l) > 0; l = a.wants() {
		a.answers(t, pick(l))
	}
	a.ends(t)
}

// ends asks whether the walk is done, and has the goal's pairs.
func (a *asked) ends(t *testing.T) {
	t.Helper()
	l, ok := a.w.Done()
	if !ok || !slices.Equal(l, a.to.pairs()) {
		t.Fatalf("the walk ends with %s, %v, not %s", show(l), ok, show(a.to.pairs()))
	}
}

// first and last pick of what is asked for.
func first(l []walk.Ask) walk.Ask { return l[0] }

func last(l []walk.Ask) walk.Ask { return l[len(l)-1] }

// leaf is the place of a bucket's leaf, way the places down to it, from the root on.
func leaf(i int) walk.Ask { return walk.Ask{Level: depth, I: i} }

func way(i int) (l []walk.Ask) {
	for level := range depth + 1 {
		l = append(l, walk.Ask{Level: level, I: i >> (depth - level)})
	}
	return l
}

// spare stands in the spare room of lists.
var spare = api.Pair{Path: "spare/x", Value: "spare"}

// show is a list as words: of a long one its beginning.
func show(l []api.Pair) string {
	return strconv.Itoa(len(l)) + " pairs " + fmt.Sprintf("%.40q", l[:min(len(l), maxKeys+2)])
}

// pair is a pair in short.
func pair(p, v string) api.Pair { return api.Pair{Path: p, Value: v} }

// letters is a text of n bytes of a to z, keyed one of n bytes of which none is 0 or /, valued one of odd bytes.
func letters(n int) string { return strings.Repeat("kqzamb", n/6+1)[:n] }

func keyed(n int) string { return strings.Repeat("k\xff.A \x01z", n/7+1)[:n] }

func valued(n int) string { return strings.Repeat("\x00\xffv/\x80\x01\x02", n/7+1)[:n] }

// longest is a path of as many bytes as there may be.
func longest() string { return letters(8) + "/" + keyed(24) }

// noPaths are texts that are no path, some of them nearly one.
func noPaths() []string {
	return []string{"", "/", "//", "a", "app", "app/", "/db", "/app/db", "app//", "app//x", "app/a/b", "app/x/", "App/x", "apP/x", "a1/x", "app2/x", "a-b/x", " app/x", "app /x", "app/\x00", "app/a\x00", "\x00app/x", "app\x00/x", "\xff/x", "\xc3\xa4/x", "ninechars/x", letters(9) + "/" + keyed(23), "app/" + keyed(25), letters(8) + "/" + keyed(25), letters(33), strings.Repeat("/", 33), "app/" + letters(huge), letters(huge) + "/x", letters(huge)}
}

// goodPaths are paths, rising; many begin with others, or come side by side.
func goodPaths() []string {
	return []string{"a/" + keyed(24), "a/x", "ap/a", "app/\x01", "app/ ", "app/.", "app/0", "app/A", "app/a", "app/a\x01", "app/a2", "app/aa", "app/b", "app/db", "app/\x7f", "app/\x80", "app/\xc3\x28", "app/\xc3\xa4", "app/\xff", "app/\xff\xff", "apps/a", longest(), letters(8) + "/x", "ops/b", "opsa/b", "web/x", "z/z", strings.Repeat("z", 8) + "/" + strings.Repeat("\xff", 24)}
}

// oneEach are paths of the sixteen buckets, in the buckets' row; which they are another program reckoned.
func oneEach() []string {
	return []string{"app/5", "app/20", "app/13", "app/12", "app/1", "app/37", "app/16", "app/14", "app/3", "app/6", "app/32", "app/4", "app/2", "app/18", "app/9", "app/11"}
}

// numbers are levels, nodes, buckets and how many, right ones and wrong ones: the edges of each level, and what wraps round to right ones.
func numbers() []int {
	l := []int{least, least + 1, least + 4, -1 << 32, -1<<32 + 1, -1 << 31, -256, -255, -33, -32, -31, -17, -16, -15, -9, -8, -5, -4, -3, -2}
	for i := -1; i <= 18; i++ {
		l = append(l, i)
	}
	return append(l, 29, 30, 31, 32, 33, 62, 63, 64, 65, 68, 127, 128, 255, 256, 256+3, 1<<16, 1<<31-1, 1<<31, 1<<32, 1<<32+3, 1<<32+4, 1<<62, most-1, most)
}

// many are n pairs that may be, of all buckets, the values of each length.
func many(n int) (l []api.Pair) {
	for i := range n {
		l = append(l, pair("app/"+strconv.Itoa(1_000_000+i), valued(i*5%(maxValue+1))))
	}
	return l
}

// inOne are n pairs of one bucket that may be.
func inOne(i, n int) []api.Pair {
	l := many(n*20 + 400)
	return slices.DeleteFunc(l, func(x api.Pair) bool { return bucketOf(x.Path) != i })[:n]
}

// each are sixteen pairs, one of each bucket, rising, with that value.
func each(v string) (l []api.Pair) {
	for _, p := range oneEach() {
		l = append(l, pair(p, v))
	}
	return rising(l)
}

// textOn is a text whose bytes are those of b, and change with them.
func textOn(b []byte) string { return unsafe.String(unsafe.SliceData(b), len(b)) }

// bytesOf is a text's own bytes, for one that was made while the test ran.
func bytesOf(s string) []byte { return unsafe.Slice(unsafe.StringData(s), len(s)) }

// one of a list's, by chance.
func one[T any](r *rand.Rand, l []T) T { return l[r.Intn(len(l))] }
