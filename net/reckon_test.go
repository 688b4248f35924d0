package net_test

import (
	"math"
	"math/rand"
	"slices"
	"strings"
	"testing"
	"unsafe"

	"twinlock/api"
	"twinlock/net"
)

// maxLink is the document's.
const maxLink = 64

// posted is a packet that was posted or doubled, and whether it came or was lost.
type posted struct {
	packet api.Packet
	gone   bool
}

// reckoning is a net as the chapter tells it: all packets that ever were, in the order in which they were posted.
type reckoning struct {
	row    []posted
	parted bool
}

// places are the places, in the row, of the packets on their way.
func (r *reckoning) places() (l []int) {
	for at, p := range r.row {
		if !p.gone {
			l = append(l, at)
		}
	}
	return l
}

// all is the packets on their way.
func (r *reckoning) all() (l []api.Packet) {
	for _, at := range r.places() {
		l = append(l, r.row[at].packet)
	}
	return l
}

// full says whether the link from a place has no room.
func (r *reckoning) full(from int) bool {
	n := 0
	for _, p := range r.all() {
		if p.From == from {
			n++
		}
	}
	return n >= maxLink
}

// post is what Post does and answers.
func (r *reckoning) post(p api.Packet) api.Errno {
	switch [2]int{p.From, p.To} {
	case [2]int{0, 1}, [2]int{1, 0}:
	default:
		return api.ErrArg
	}
	if r.full(p.From) {
		return api.ErrFull
	}
	r.row = append(r.row, posted{packet: p})
	return api.OK
}

// find is the packet number i, or none.
func (r *reckoning) find(i int) *posted {
	l := r.places()
	if i < 0 || i >= len(l) {
		return nil
	}
	return &r.row[l[i]]
}

// take is what Take does and answers.
func (r *reckoning) take(i int) (api.Packet, api.Errno) {
	p := r.find(i)
	if p == nil {
		return api.Packet{}, api.ErrNone
	}
	if r.parted {
		return api.Packet{}, api.ErrDown
	}
	p.gone = true
	return p.packet, api.OK
}

// lose is what Lose does and answers.
func (r *reckoning) lose(i int) api.Errno {
	p := r.find(i)
	if p == nil {
		return api.ErrNone
	}
	p.gone = true
	return api.OK
}

// dup is what Dup does and answers.
func (r *reckoning) dup(i int) api.Errno {
	p := r.find(i)
	if p == nil {
		return api.ErrNone
	}
	return r.post(p.packet)
}

// asked is a net that is asked, and what the chapter tells of it.
type asked struct {
	net  *net.Net
	told *reckoning
}

// start is a new net.
func start(t *testing.T) *asked {
	t.Helper()
	x := net.New()
	if x == nil {
		t.Fatal("New is nil")
	}
	a := &asked{x, &reckoning{}}
	a.stands(t)
	return a
}

// stands asks how the net stands.
func (a *asked) stands(t *testing.T) {
	t.Helper()
	want := a.told.all()
	if l := a.net.All(); !slices.Equal(l, want) {
		t.Fatalf("All is %q, not %q", tell(l), tell(want))
	}
	if n := a.net.Len(); n != len(want) {
		t.Fatalf("Len is %d, not %d", n, len(want))
	}
	if on := a.net.Parted(); on != a.told.parted {
		t.Fatalf("Parted is %v", on)
	}
}

// same holds an answer against what is to be answered, and asks how the net stands.
func (a *asked) same(t *testing.T, call string, e, want api.Errno) api.Errno {
	t.Helper()
	if e != want {
		t.Fatalf("%s is answered %d, not %d", call, e, want)
	}
	a.stands(t)
	return e
}

// post asks Post, and tells its answer.
func (a *asked) post(t *testing.T, from, to int, data string) api.Errno {
	t.Helper()
	p := api.Packet{From: from, To: to, Data: data}
	want := a.told.post(p)
	return a.same(t, "Post", a.net.Post(p), want)
}

// posts asks Post of some texts from a place to the other one, each of which must be done.
func (a *asked) posts(t *testing.T, from int, l ...string) {
	t.Helper()
	for _, s := range l {
		a.is(t, a.post(t, from, 1-from, s), api.OK)
	}
}

// is holds a call's answer against what it must be.
func (a *asked) is(t *testing.T, e, want api.Errno) {
	t.Helper()
	if e != want {
		t.Fatalf("answered %d, not %d", e, want)
	}
}

// take asks Take, and tells its answer.
func (a *asked) take(t *testing.T, i int) api.Errno {
	t.Helper()
	q, want := a.told.take(i)
	p, e := a.net.Take(i)
	if p != q {
		t.Fatalf("Take of %d is %v, not %v", i, p, q)
	}
	return a.same(t, "Take", e, want)
}

// comes asks Take, by which a text must come from a place.
func (a *asked) comes(t *testing.T, i, from int, data string) {
	t.Helper()
	if p := a.told.find(i); p == nil || p.packet != (api.Packet{From: from, To: 1 - from, Data: data}) {
		t.Fatalf("the packet %d is %v", i, p)
	}
	a.is(t, a.take(t, i), api.OK)
}

// lose asks Lose, and tells its answer.
func (a *asked) lose(t *testing.T, i int) api.Errno {
	t.Helper()
	want := a.told.lose(i)
	return a.same(t, "Lose", a.net.Lose(i), want)
}

// dup asks Dup, and tells its answer.
func (a *asked) dup(t *testing.T, i int) api.Errno {
	t.Helper()
	want := a.told.dup(i)
	return a.same(t, "Dup", a.net.Dup(i), want)
}

// part asks Part.
func (a *asked) part(t *testing.T, on bool) {
	t.Helper()
	a.told.parted = on
	a.net.Part(on)
	a.stands(t)
}

// fill posts so many packets from a place, each with a text of its own.
func (a *asked) fill(t *testing.T, from, n int) {
	t.Helper()
	for k := range n {
		a.posts(t, from, some(k%5, int64(2*k+from)))
	}
}

// filled is a net whose links have so many packets, in turns as far as both go.
func filled(t *testing.T, zero, one int) *asked {
	t.Helper()
	a := start(t)
	for k := range max(zero, one) {
		if k < zero {
			a.posts(t, 0, "zero "+some(2, int64(k)))
		}
		if k < one {
			a.posts(t, 1, "one "+some(2, int64(k)))
		}
	}
	return a
}

// way asks how the packets stand that are on their way: each is its place's number, from which it comes, and its text.
func (a *asked) way(t *testing.T, want ...string) {
	t.Helper()
	if got := tell(a.net.All()); got != strings.Join(want, " ") {
		t.Fatalf("on their way are %q, not %q", got, want)
	}
}

// tell is packets as a text: each is its place's number, from which it comes, and its text.
func tell(l []api.Packet) string {
	var s []string
	for _, p := range l {
		s = append(s, string(rune('0'+p.From))+p.Data)
	}
	return strings.Join(s, " ")
}

// some is a text of n bytes, the same one for the same n and seed.
func some(n int, seed int64) string {
	b := make([]byte, n)
	rand.New(rand.NewSource(seed)).Read(b)
	return string(b)
}

// bytesOf is a text's own bytes, for one that was made while the test ran.
func bytesOf(s string) []byte { return unsafe.Slice(unsafe.StringData(s), len(s)) }

// Numbers that are no place and that no packet has.
var beyond = []int{-1, -2, -64, math.MinInt, math.MinInt + 1, -1 << 32, 128, 129, 1 << 31, 1 << 32, 1<<32 + 1, math.MaxInt - 1, math.MaxInt}

// nones are nets that are none: nil, and such as New did not make.
func nones() map[string]*net.Net {
	return map[string]*net.Net{"nil": nil, "not made": {}, "new": new(net.Net)}
}
