package net_test

import (
	"math/rand"
	"slices"
	"strconv"
	"testing"

	"twinlock/api"
	"twinlock/net"
)

// anything asks one thing of a net, drawn by chance, right or wrong.
func anything(t *testing.T, a *asked, r *rand.Rand, more int) {
	t.Helper()
	i := r.Intn(a.net.Len()+3) - 1
	switch k := r.Intn(14 + more); {
	case k < 3:
		a.take(t, i)
	case k < 5:
		a.lose(t, i)
	case k < 9:
		a.dup(t, i)
	case k < 10:
		a.part(t, r.Intn(2) == 0)
	case k < 11:
		a.post(t, r.Intn(4)-1, r.Intn(4)-1, some(r.Intn(3), r.Int63()))
	default:
		from := r.Intn(2)
		a.post(t, from, 1-from, some(r.Intn(40), r.Int63()))
	}
}

// Nets asked by chance: few packets on some, full links on others.
func TestP85Chance(t *testing.T) {
	for seed := range int64(120) {
		r := rand.New(rand.NewSource(seed))
		a := start(t)
		for range 400 {
			anything(t, a, r, int(seed%4)*4)
		}
	}
}

// tally is how often each text was doubled, came and was lost; sent is the packet in which it was posted. links is how many packets each link has; full and down are how often these were answered.
type tally struct {
	sent              map[string]api.Packet
	twice, came, lost map[string]int
	links             [2]int
	full, down        int
}

// newTally is one of nothing.
func newTally() *tally {
	return &tally{sent: map[string]api.Packet{}, twice: map[string]int{}, came: map[string]int{}, lost: map[string]int{}}
}

// holds holds a net against what was done: each text is on its way as often as it was posted and doubled, less what came and was lost; and no link has more than its room.
func (y *tally) holds(t *testing.T, x *net.Net) {
	t.Helper()
	way, links := map[string]int{}, [2]int{}
	for _, p := range x.All() {
		if p != y.sent[p.Data] {
			t.Fatalf("%v is on its way", p)
		}
		way[p.Data]++
		links[p.From]++
	}
	for s := range y.sent {
		if way[s] != 1+y.twice[s]-y.came[s]-y.lost[s] {
			t.Fatalf("%q is on its way %d times; posted, and doubled %d times; %d came, %d were lost", s, way[s], y.twice[s], y.came[s], y.lost[s])
		}
	}
	if links != y.links || max(links[0], links[1]) > maxLink || x.Len() != links[0]+links[1] {
		t.Fatalf("%v are on their way, Len is %d, not %v", links, x.Len(), y.links)
	}
}

// post posts a text of its own.
func (y *tally) post(t *testing.T, x *net.Net, from int) {
	t.Helper()
	s := strconv.Itoa(len(y.sent)) + " of " + strconv.Itoa(from)
	p := api.Packet{From: from, To: 1 - from, Data: s}
	switch e := x.Post(p); {
	case e == api.OK && y.links[from] < maxLink:
		y.sent[s] = p
		y.links[from]++
	case e == api.ErrFull && y.links[from] == maxLink:
		y.full++
	default:
		t.Fatalf("Post is answered %d, of %d on the link", e, y.links[from])
	}
}

// dup doubles the packet i.
func (y *tally) dup(t *testing.T, x *net.Net, i int) {
	t.Helper()
	p := x.All()[i]
	switch e := x.Dup(i); {
	case e == api.OK && y.links[p.From] < maxLink:
		y.twice[p.Data]++
		y.links[p.From]++
	case e == api.ErrFull && y.links[p.From] == maxLink:
		y.full++
	default:
		t.Fatalf("Dup is answered %d, of %d on the link", e, y.links[p.From])
	}
}

// take lets the packet i come.
func (y *tally) take(t *testing.T, x *net.Net, i int) {
	t.Helper()
	p := x.All()[i]
	switch q, e := x.Take(i); {
	case e == api.OK && q == p && !x.Parted():
		y.came[p.Data]++
		y.links[p.From]--
	case e == api.ErrDown && q == (api.Packet{}) && x.Parted():
		y.down++
	default:
		t.Fatalf("Take is answered %d, %v, parted %v", e, q, x.Parted())
	}
}

// lose lets the packet i get lost.
func (y *tally) lose(t *testing.T, x *net.Net, i int) {
	t.Helper()
	p := x.All()[i]
	if e := x.Lose(i); e != api.OK {
		t.Fatalf("Lose is answered %d", e)
	}
	y.lost[p.Data]++
	y.links[p.From]--
}

// act does one thing, drawn by chance.
func (y *tally) act(t *testing.T, x *net.Net, r *rand.Rand, more int) {
	t.Helper()
	n := x.Len()
	switch k := r.Intn(11 + more); {
	case k == 0:
		x.Part(r.Intn(2) == 0)
	case n == 0 || k > 7:
		y.post(t, x, r.Intn(2))
	case k < 4:
		y.take(t, x, r.Intn(n))
	case k < 5:
		y.lose(t, x, r.Intn(n))
	default:
		y.dup(t, x, r.Intn(n))
	}
}

// What comes was posted, as often as it was posted and doubled and no oftener; and at last all comes that wasn't lost, once the net is joined.
func TestP85Tally(t *testing.T) {
	full, down := 0, 0
	for seed := range int64(80) {
		r := rand.New(rand.NewSource(seed))
		x, y := net.New(), newTally()
		for range 600 {
			y.act(t, x, r, int(seed%3)*3)
			y.holds(t, x)
		}
		x.Part(true)
		left := x.All()
		for i := range left {
			y.take(t, x, i)
		}
		x.Part(false)
		if !slices.Equal(left, x.All()) {
			t.Fatal("a parting changes what is on its way")
		}
		for range left {
			y.take(t, x, r.Intn(x.Len()))
			y.holds(t, x)
		}
		for s := range y.sent {
			if y.came[s]+y.lost[s] != 1+y.twice[s] {
				t.Fatalf("%q was posted, and doubled %d times; %d came, %d were lost", s, y.twice[s], y.came[s], y.lost[s])
			}
		}
		full, down = full+y.full, down+y.down
	}
	if full < 1000 || down < 1000 {
		t.Errorf("%d times a link was full, %d times the net was parted", full, down)
	}
}

// What one link has says nothing of the other one's room: each answers as it would alone.
func TestP85Links(t *testing.T) {
	for seed := range int64(60) {
		r := rand.New(rand.NewSource(seed))
		both, alone := net.New(), [2]*net.Net{net.New(), net.New()}
		for range 500 {
			from := r.Intn(2)
			mine := alone[from].Len()
			var e, want api.Errno
			switch k := r.Intn(8); {
			case mine == 0 || k < 3:
				p := api.Packet{From: from, To: 1 - from, Data: some(3, r.Int63())}
				e, want = both.Post(p), alone[from].Post(p)
			case k < 5:
				i := r.Intn(mine)
				e, want = both.Dup(among(both, from, i)), alone[from].Dup(i)
			case k < 6:
				i := r.Intn(mine)
				e, want = both.Lose(among(both, from, i)), alone[from].Lose(i)
			default:
				i := r.Intn(mine)
				var p, q api.Packet
				p, e = both.Take(among(both, from, i))
				q, want = alone[from].Take(i)
				if p != q {
					t.Fatalf("Take: %v, not %v", p, q)
				}
			}
			if e != want {
				t.Fatalf("answered %d, alone %d", e, want)
			}
		}
		for from, x := range alone {
			l := slices.DeleteFunc(both.All(), func(p api.Packet) bool { return p.From != from })
			if !slices.Equal(l, x.All()) {
				t.Fatalf("the link from %d has %q, alone %q", from, tell(l), tell(x.All()))
			}
		}
	}
}

// among is the number, over both links, of the packet i of the link from a place.
func among(x *net.Net, from, i int) int {
	for at, p := range x.All() {
		if p.From == from {
			if i == 0 {
				return at
			}
			i--
		}
	}
	return -1
}

// A parting at any step changes nothing but that none comes: what is done around it goes as it does without.
func TestP85Parting(t *testing.T) {
	for seed := range int64(40) {
		r := rand.New(rand.NewSource(seed))
		a, b := start(t), start(t)
		for range 200 {
			if r.Intn(3) == 0 {
				b.part(t, true)
				for i := range b.net.Len() {
					b.is(t, b.take(t, i), api.ErrDown)
				}
				b.part(t, false)
			}
			s := r.Int63()
			x, y := rand.New(rand.NewSource(s)), rand.New(rand.NewSource(s))
			anything(t, a, x, 8)
			anything(t, b, y, 8)
			a.part(t, false)
			b.part(t, false)
			if !slices.Equal(a.net.All(), b.net.All()) {
				t.Fatalf("%q, and behind partings %q", tell(a.net.All()), tell(b.net.All()))
			}
		}
	}
}

// Two packets of the same bytes are two, whichever of them comes.
func TestP85Alike(t *testing.T) {
	a := start(t)
	a.posts(t, 0, "x", "x")
	a.posts(t, 1, "x")
	a.is(t, a.dup(t, 2), api.OK)
	a.comes(t, 0, 0, "x")
	a.comes(t, 2, 1, "x")
	a.way(t, "0x", "1x")
	a.comes(t, 0, 0, "x")
	a.comes(t, 0, 1, "x")
	a.way(t)
}

// A net that is copied by value is another one: what either does is nothing to the other one.
func TestP85Copied(t *testing.T) {
	for seed := range int64(60) {
		r := rand.New(rand.NewSource(seed))
		a := start(t)
		for range r.Intn(60) {
			anything(t, a, r, 12)
		}
		x := *a.net
		b := &asked{&x, &reckoning{row: slices.Clone(a.told.row), parted: a.told.parted}}
		for range 60 {
			anything(t, []*asked{a, b}[r.Intn(2)], r, 2)
			a.stands(t)
			b.stands(t)
		}
	}
}

// The chapter's examples, line by line, each on a new net.
func TestP8Examples(t *testing.T) {
	is := func(line int, e, want api.Errno) {
		t.Helper()
		if e != want {
			t.Errorf("line %d: %d, not %d", line, e, want)
		}
	}
	take := func(line int, x *net.Net, want api.Packet) {
		t.Helper()
		if p, e := x.Take(0); p != want || e != api.OK {
			t.Errorf("line %d: Take: %d, %v", line, e, p)
		}
	}
	zero := func(s string) api.Packet { return api.Packet{From: 0, To: 1, Data: s} }
	one := func(s string) api.Packet { return api.Packet{From: 1, To: 0, Data: s} }

	x := net.New()
	is(1, x.Post(zero("a")), api.OK)
	is(1, x.Post(one("b")), api.OK)
	is(1, x.Dup(0), api.OK)
	take(1, x, zero("a"))
	if x.Len() != 2 {
		t.Errorf("line 1: Len is %d", x.Len())
	}
	is(1, x.Lose(0), api.OK)
	take(1, x, zero("a"))
	p, e := x.Take(0)
	is(1, e, api.ErrNone)
	if p != (api.Packet{}) {
		t.Errorf("line 1: Take of none: %v", p)
	}

	x = net.New()
	is(2, x.Post(api.Packet{From: 2, To: 0, Data: "a"}), api.ErrArg)
	is(2, x.Post(api.Packet{From: 0, To: 0, Data: "a"}), api.ErrArg)
	is(2, x.Post(zero("c")), api.OK)
	x.Part(true)
	p, e = x.Take(0)
	is(2, e, api.ErrDown)
	if p != (api.Packet{}) {
		t.Errorf("line 2: Take while it is parted: %v", p)
	}
	x.Part(false)
	take(2, x, zero("c"))

	x = net.New()
	for range 64 {
		is(3, x.Post(zero("a")), api.OK)
	}
	is(3, x.Post(zero("a")), api.ErrFull)
	is(3, x.Post(one("a")), api.OK)
	is(3, x.Lose(3), api.OK)
	is(3, x.Dup(0), api.OK)
}
