package net_test

import (
	"reflect"
	"slices"
	"strings"
	"testing"

	"twinlock/api"
	"twinlock/net"
)

// loads are how many packets a link may have: none, some, one less than it has room for, all.
var loads = []int{0, 1, maxLink / 2, maxLink - 1, maxLink}

func TestP81New(t *testing.T) {
	x := net.New()
	if x.Len() != 0 || len(x.All()) != 0 || x.Parted() {
		t.Errorf("a new net: %d, %v, %v", x.Len(), x.All(), x.Parted())
	}
	for _, i := range []int{-1, 0, 1} {
		if p, e := x.Take(i); p != (api.Packet{}) || e != api.ErrNone {
			t.Errorf("Take of %d: %v, %d", i, p, e)
		}
	}
	filled(t, maxLink, maxLink)
}

// Nets know nothing of one another.
func TestP81Apart(t *testing.T) {
	a, b := start(t), start(t)
	a.fill(t, 0, maxLink)
	b.stands(t)
	b.posts(t, 0, "x")
	a.part(t, true)
	b.stands(t)
	b.comes(t, 0, 0, "x")
	a.stands(t)
	b.fill(t, 1, maxLink)
	a.posts(t, 1, "y")
	a.is(t, a.lose(t, 3), api.OK)
	b.stands(t)
	start(t)
}

// All pairs of places, on nets that are empty, full, parted: what isn't between the two is ErrArg, ahead of ErrFull.
func TestP81Places(t *testing.T) {
	for _, parted := range []bool{false, true} {
		for _, n := range loads {
			a := filled(t, n, n)
			a.part(t, parted)
			for _, from := range append([]int{0, 1, 2, 3}, beyond...) {
				for _, to := range append([]int{0, 1, 2, 3}, beyond...) {
					want := api.ErrArg
					switch {
					case from+to == 1 && from*to == 0 && n == maxLink:
						want = api.ErrFull
					case from+to == 1 && from*to == 0:
						want = api.OK
					}
					a.is(t, a.post(t, from, to, "x"), want)
					if want == api.OK {
						a.is(t, a.lose(t, 2*n), api.OK)
					}
				}
			}
			if a.net.Len() != 2*n {
				t.Errorf("%d on their way, not %d", a.net.Len(), 2*n)
			}
		}
	}
}

// Places whose sum is 1 by wrapping round, or else, are no pair.
func TestP81Sums(t *testing.T) {
	a := start(t)
	for _, x := range [][2]int{{-1, 2}, {2, -1}, {-2, 3}, {1 << 32, 1 - 1<<32}, {1<<32 + 1, 0}, {0, 1<<32 + 1}, {1 << 32, 1}, {1, 1 << 32}, {256, 1}, {0, 257}, {0, 0}, {1, 1}} {
		a.is(t, a.post(t, x[0], x[1], "x"), api.ErrArg)
	}
	a.way(t)
}

// A link has room for maxLink, whatever the other one has; what is refused is not posted.
func TestP81Room(t *testing.T) {
	for from := range 2 {
		for _, other := range loads {
			for _, late := range []bool{false, true} {
				a := start(t)
				if !late {
					a.fill(t, 1-from, other)
				}
				for k := range maxLink {
					a.posts(t, from, some(3, int64(k)))
				}
				for range 3 {
					a.is(t, a.post(t, from, 1-from, "over"), api.ErrFull)
					a.is(t, a.post(t, from, 1-from, ""), api.ErrFull)
				}
				if late {
					a.fill(t, 1-from, other)
				}
				want := api.OK
				if other == maxLink {
					want = api.ErrFull
				}
				a.is(t, a.post(t, 1-from, from, "other"), want)
				a.is(t, a.post(t, from, 1-from, "over"), api.ErrFull)
			}
		}
	}
}

// What is posted stands behind the others, over both links.
func TestP81Order(t *testing.T) {
	a := start(t)
	a.posts(t, 1, "a")
	a.way(t, "1a")
	a.posts(t, 0, "b")
	a.way(t, "1a", "0b")
	a.posts(t, 0, "b")
	a.way(t, "1a", "0b", "0b")
	a.posts(t, 1, "a", "")
	a.way(t, "1a", "0b", "0b", "1a", "1")
}

// A packet has any bytes, none or many, and comes with the same ones.
func TestP81Bytes(t *testing.T) {
	var each []byte
	for c := range 256 {
		each = append(each, byte(c))
	}
	l := []string{"", "\x00", "\x00\x00", "\xff", string(each), strings.Repeat("\xc3\x28", 3)}
	for _, n := range []int{1, 2, 63, 64, 65, 255, 256, 257, 4096, 1 << 16, 1<<16 + 1, 1 << 20} {
		l = append(l, some(n, int64(n)))
	}
	a := start(t)
	for from := range 2 {
		for _, s := range l {
			a.posts(t, from, s)
		}
	}
	for i := range l {
		a.is(t, a.dup(t, i), api.OK)
	}
	for from := range 2 {
		for _, s := range l {
			a.comes(t, 0, from, s)
		}
	}
	for _, s := range l {
		a.comes(t, 0, 0, s)
	}
	a.way(t)
}

// What is posted is not kept: it may be written over.
func TestP81NotKept(t *testing.T) {
	a := start(t)
	for k := range 3 {
		s := some(40, int64(k))
		p := api.Packet{From: 0, To: 1, Data: strings.Clone(s)}
		a.told.post(api.Packet{From: 0, To: 1, Data: s})
		a.is(t, a.net.Post(p), api.OK)
		if p.Data != s || p.From != 0 || p.To != 1 {
			t.Error("what was posted is changed")
		}
		clear(bytesOf(p.Data))
		a.stands(t)
	}
	a.comes(t, 1, 0, some(40, 1))
}

// sizes are how many packets the two links have.
var sizes = [][2]int{{0, 0}, {1, 0}, {0, 1}, {1, 1}, {2, 1}, {3, 2}, {maxLink, 0}, {0, maxLink}, {maxLink, 1}, {maxLink - 1, maxLink}, {maxLink, maxLink}}

// numbers are those of the first packet, of one in the middle and about it, of the last one, and of those beyond.
func numbers(n int) []int {
	l := append([]int{0, 1, n / 2, n/2 + 1, n - 2, n - 1, n, n + 1, n + maxLink, -n}, beyond...)
	slices.Sort(l)
	return slices.Compact(l)
}

// Take, Lose and Dup of any number: the others stay in their order (stands asks it).
func TestP82Numbers(t *testing.T) {
	for _, parted := range []bool{false, true} {
		for _, size := range sizes {
			n := size[0] + size[1]
			for _, i := range numbers(n) {
				for which := range 3 {
					a := filled(t, size[0], size[1])
					a.part(t, parted)
					e := [](func(*testing.T, int) api.Errno){a.take, a.lose, a.dup}[which](t, i)
					if (i < 0 || i >= n) != (e == api.ErrNone) {
						t.Errorf("call %d of %d, of %d: %d", which, i, n, e)
					}
					a.part(t, false)
				}
			}
		}
	}
}

// All packets come, by whatever numbers they are asked for, till none is left.
func TestP82Drain(t *testing.T) {
	for _, size := range sizes {
		for which := range 3 {
			a := filled(t, size[0], size[1])
			for n := a.net.Len(); n > 0; n-- {
				i := []int{0, n - 1, n / 2}[which]
				a.is(t, a.take(t, n), api.ErrNone)
				a.is(t, a.take(t, i), api.OK)
			}
			for i := -1; i < 3; i++ {
				a.is(t, a.take(t, i), api.ErrNone)
				a.is(t, a.lose(t, i), api.ErrNone)
				a.is(t, a.dup(t, i), api.ErrNone)
			}
		}
	}
}

// five is a net with five packets, of both links.
func five(t *testing.T) *asked {
	t.Helper()
	a := start(t)
	a.posts(t, 0, "a")
	a.posts(t, 1, "b")
	a.posts(t, 0, "c", "d")
	a.posts(t, 1, "e")
	return a
}

// Each of five packets comes, is lost, is doubled: the others stand as they stood, a doubled one behind all.
func TestP82Others(t *testing.T) {
	all := []string{"0a", "1b", "0c", "0d", "1e"}
	for i, s := range all {
		a := five(t)
		a.comes(t, i, int(s[0]-'0'), s[1:])
		a.way(t, slices.Delete(slices.Clone(all), i, i+1)...)

		a = five(t)
		a.is(t, a.lose(t, i), api.OK)
		a.way(t, slices.Delete(slices.Clone(all), i, i+1)...)

		a = five(t)
		a.is(t, a.dup(t, i), api.OK)
		a.way(t, append(slices.Clone(all), s)...)
		a.is(t, a.dup(t, 5), api.OK)
		a.posts(t, 1, "f")
		a.way(t, append(slices.Clone(all), s, s, "1f")...)
		a.comes(t, i, int(s[0]-'0'), s[1:])
		a.comes(t, 5, int(s[0]-'0'), s[1:])
		a.is(t, a.lose(t, 4), api.OK)
		a.way(t, append(slices.Delete(slices.Clone(all), i, i+1), "1f")...)
	}
}

// What came or was lost does so no more, and is doubled no more.
func TestP82Gone(t *testing.T) {
	a := start(t)
	a.posts(t, 0, "a")
	a.comes(t, 0, 0, "a")
	a.is(t, a.take(t, 0), api.ErrNone)
	a.is(t, a.lose(t, 0), api.ErrNone)
	a.is(t, a.dup(t, 0), api.ErrNone)
	a.posts(t, 1, "b")
	a.is(t, a.lose(t, 0), api.OK)
	a.is(t, a.take(t, 0), api.ErrNone)
	a.is(t, a.lose(t, 0), api.ErrNone)
	a.is(t, a.dup(t, 0), api.ErrNone)
	a.way(t)
}

// Dup asks the room of the packet's own link alone.
func TestP82DupRoom(t *testing.T) {
	for from := range 2 {
		for _, n := range loads[1:] {
			for _, other := range loads[1:] {
				l := [2]int{n, other}
				a := filled(t, l[from], l[1-from])
				i := slices.IndexFunc(a.net.All(), func(p api.Packet) bool { return p.From == from })
				for range maxLink - n {
					a.is(t, a.dup(t, i), api.OK)
				}
				a.is(t, a.dup(t, i), api.ErrFull)
				for j, p := range a.net.All() {
					if p.From == from {
						a.is(t, a.dup(t, j), api.ErrFull)
					}
				}
				a.is(t, a.dup(t, a.net.Len()), api.ErrNone)
				a.is(t, a.dup(t, -1), api.ErrNone)
			}
		}
	}
}

// Room is free again behind Take and Lose, of that packet's link, for one more.
func TestP82Free(t *testing.T) {
	for which := range 4 {
		a := filled(t, maxLink, maxLink)
		for k := range 200 {
			i := k * 7 % (2 * maxLink)
			from := a.net.All()[i].From
			if which%2 == 0 {
				a.is(t, a.take(t, i), api.OK)
			} else {
				a.is(t, a.lose(t, i), api.OK)
			}
			a.is(t, a.post(t, 1-from, from, "x"), api.ErrFull)
			if which < 2 {
				a.posts(t, from, "y")
			} else {
				j := slices.IndexFunc(a.net.All(), func(p api.Packet) bool { return p.From == from })
				a.is(t, a.dup(t, j), api.OK)
			}
			a.is(t, a.post(t, from, 1-from, "z"), api.ErrFull)
			a.is(t, a.post(t, 1-from, from, "z"), api.ErrFull)
		}
	}
}

// While the net is parted none comes; that there is none is told ahead of it. All else is as ever, and what comes then comes behind the joining.
func TestP82Parted(t *testing.T) {
	a := five(t)
	a.part(t, true)
	for range 3 {
		for i := range 5 {
			a.is(t, a.take(t, i), api.ErrDown)
		}
		for _, i := range []int{-1, 5, 6} {
			a.is(t, a.take(t, i), api.ErrNone)
			a.is(t, a.lose(t, i), api.ErrNone)
			a.is(t, a.dup(t, i), api.ErrNone)
		}
	}
	a.way(t, "0a", "1b", "0c", "0d", "1e")
	a.posts(t, 0, "f")
	a.is(t, a.lose(t, 2), api.OK)
	a.is(t, a.dup(t, 1), api.OK)
	a.way(t, "0a", "1b", "0d", "1e", "0f", "1b")
	a.is(t, a.take(t, 5), api.ErrDown)
	a.part(t, false)
	for _, x := range []string{"0a", "1b", "0d", "1e", "0f", "1b"} {
		a.comes(t, 0, int(x[0]-'0'), x[1:])
	}
	a.part(t, true)
	a.is(t, a.take(t, 0), api.ErrNone)
}

// A parted net's links have their room, too.
func TestP82PartedRoom(t *testing.T) {
	a := start(t)
	a.part(t, true)
	a.fill(t, 0, maxLink)
	a.is(t, a.post(t, 0, 1, "x"), api.ErrFull)
	a.is(t, a.dup(t, 0), api.ErrFull)
	a.is(t, a.take(t, 0), api.ErrDown)
	a.is(t, a.post(t, 0, 1, "x"), api.ErrFull)
	a.is(t, a.lose(t, 0), api.OK)
	a.is(t, a.dup(t, 9), api.OK)
	a.is(t, a.dup(t, 9), api.ErrFull)
	a.posts(t, 1, "y")
	a.part(t, false)
	a.is(t, a.post(t, 0, 1, "x"), api.ErrFull)
}

// Part of each, twice, in turns.
func TestP83Part(t *testing.T) {
	a := start(t)
	a.posts(t, 0, "a", "b", "c", "d", "e", "f", "g", "h")
	for _, on := range []bool{false, false, true, true, false, false, true, false, true, true, false} {
		a.part(t, on)
		if a.net.Parted() != on {
			t.Errorf("Parted is %v behind Part of %v", !on, on)
		}
		want := api.OK
		if on {
			want = api.ErrDown
		}
		a.is(t, a.take(t, 0), want)
		a.posts(t, 1, "x")
	}
}

// Nothing but Part parts or joins; stands asks it behind each call.
func TestP83Alone(t *testing.T) {
	for _, on := range []bool{false, true} {
		a := start(t)
		a.part(t, on)
		a.fill(t, 0, maxLink)
		a.fill(t, 1, 3)
		a.post(t, 0, 1, "x")
		a.post(t, 2, 1, "x")
		for i := range 3 {
			a.take(t, i)
			a.lose(t, i)
			a.dup(t, i)
			a.take(t, 500)
		}
		if a.net.Parted() != on {
			t.Errorf("Parted is %v", !on)
		}
	}
}

// All tells both links' packets in one order, Len how many; what is told is the net's no more.
func TestP83All(t *testing.T) {
	for _, size := range sizes {
		a := filled(t, size[0], size[1])
		l, again := a.net.All(), a.net.All()
		if len(l) != size[0]+size[1] || a.net.Len() != len(l) {
			t.Fatalf("All has %d, Len is %d", len(l), a.net.Len())
		}
		for i := range l {
			clear(bytesOf(l[i].Data))
			l[i] = api.Packet{From: 7, To: 8, Data: "z"}
		}
		clear(l[:cap(l)])
		l = append(l[:0], api.Packet{From: 1, Data: "y"})
		a.stands(t)
		if !slices.Equal(again, a.net.All()) {
			t.Errorf("one All changes another: %q", tell(again))
		}
		a.post(t, 0, 1, "w")
		a.post(t, 1, 0, l[0].Data)
	}
}

// What All told stays as it is, whatever the net does then.
func TestP83AllStays(t *testing.T) {
	a := five(t)
	l := a.net.All()
	a.is(t, a.take(t, 1), api.OK)
	a.is(t, a.lose(t, 0), api.OK)
	a.is(t, a.dup(t, 0), api.OK)
	a.posts(t, 0, "x", "y", "z")
	if tell(l) != "0a 1b 0c 0d 1e" {
		t.Errorf("All was %q", tell(l))
	}
}

// No two texts of one All, nor one of Take, are the same memory.
func TestP83Texts(t *testing.T) {
	a := start(t)
	a.posts(t, 0, "hello")
	a.is(t, a.dup(t, 0), api.OK)
	a.is(t, a.dup(t, 1), api.OK)
	l := a.net.All()
	clear(bytesOf(l[1].Data))
	if tell([]api.Packet{l[0], l[2]}) != "0hello 0hello" {
		t.Errorf("All is %q", tell(l))
	}
	p, e := a.net.Take(1)
	a.told.take(1)
	if p.Data != "hello" || e != api.OK {
		t.Errorf("Take: %d, %q", e, p.Data)
	}
	clear(bytesOf(p.Data))
	a.stands(t)
	a.comes(t, 1, 0, "hello")
	a.comes(t, 0, 0, "hello")
}

// A nil net, and such as New did not make, on which each call is asked twice.
func TestP84None(t *testing.T) {
	for name, x := range nones() {
		for range 2 {
			for _, p := range []api.Packet{{From: 0, To: 1, Data: "a"}, {From: 1, To: 0}, {}, {From: 2, To: -1, Data: "a"}} {
				if e := x.Post(p); e != api.ErrNil {
					t.Errorf("%s: Post of %v: %d", name, p, e)
				}
			}
			for _, on := range []bool{true, false, true} {
				x.Part(on)
				if x.Parted() {
					t.Errorf("%s: parted", name)
				}
			}
			for _, i := range append([]int{0, 1, 63}, beyond...) {
				if p, e := x.Take(i); p != (api.Packet{}) || e != api.ErrNil {
					t.Errorf("%s: Take of %d: %v, %d", name, i, p, e)
				}
				if e := x.Lose(i); e != api.ErrNil {
					t.Errorf("%s: Lose of %d: %d", name, i, e)
				}
				if e := x.Dup(i); e != api.ErrNil {
					t.Errorf("%s: Dup of %d: %d", name, i, e)
				}
			}
			if l, n := x.All(), x.Len(); len(l) != 0 || n != 0 {
				t.Errorf("%s: All is %v, Len %d", name, l, n)
			}
		}
		if x != nil && !reflect.DeepEqual(x, new(net.Net)) {
			t.Errorf("%s: something is kept", name)
		}
	}
}
