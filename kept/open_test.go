package kept_test

import (
	"math"
	"slices"
	"strconv"
	"strings"
	"testing"

	"twinlock/api"
	"twinlock/disk"
	"twinlock/kept"
)

// A place's size is the document's.
func TestP91Sectors(t *testing.T) {
	if kept.Sectors != sectors || sectors != 2*slotSize {
		t.Errorf("Sectors is %d", kept.Sectors)
	}
}

// Sectors' numbers from which no place can be.
var beyond = []int{-1, -2, -sectors, -sectors - 1, -1 << 32, math.MinInt, math.MinInt + 1, math.MinInt + sectors, api.MaxDisk, 1 << 31, 1 << 32, math.MaxInt - 2*sectors, math.MaxInt - sectors - 1, math.MaxInt - sectors, math.MaxInt - sectors + 1, math.MaxInt - 1, math.MaxInt}

// Of no disk nothing is opened, wherever.
func TestP91None(t *testing.T) {
	for name, d := range map[string]*disk.Disk{"nil": nil, "not made": {}, "new": new(disk.Disk)} {
		for _, from := range append([]int{0, 1, sectors}, beyond...) {
			if k, e := kept.Open(d, from); k != nil || e != api.ErrNil {
				t.Errorf("%s: Open from %d on is answered %p, %d", name, from, k, e)
			}
		}
	}
}

// A place must fit on its disk.
func TestP91Place(t *testing.T) {
	for _, n := range []int{1, 2, 10, 18, 19, 20, 21, 22, 39, 40, 41, 64, api.MaxDisk - 1, api.MaxDisk} {
		b := newDisk(t, n)
		for _, from := range append([]int{0, 1, 2, 19, 20, 21, n - 22, n - 21, n - 20, n - 19, n - 18, n - 10, n - 1, n, n + 1}, beyond...) {
			k, e := kept.Open(b.asked, from)
			if fits := from >= 0 && from <= n-sectors; fits != (e == api.OK) || fits != (k != nil) || !fits && e != api.ErrArg {
				t.Errorf("Open from %d on, of %d, is answered %p, %d", from, n, k, e)
			}
		}
		b.same(t)
	}
}

// A place works from its first sector on, be that the disk's first one or the last from which it fits.
func TestP91Ends(t *testing.T) {
	for _, n := range []int{20, 21, 40, 47, api.MaxDisk} {
		for _, from := range []int{0, n - sectors} {
			b := newDisk(t, n)
			a := b.opened(t, from)
			a.empty(t)
			a.puts(t, some(most, 1), some(most, 2), "x")
			b.opened(t, from).is(t, "x")
			b.refused(t, n-sectors+1, api.ErrArg)
		}
	}
}

// With the power off nothing is opened; a place that doesn't fit is told ahead of that, a spoilt sector is not.
func TestP91Down(t *testing.T) {
	b := newDisk(t, 40)
	b.opened(t, 10).puts(t, "a", "b")
	b.blow(t)
	for _, spoilt := range []bool{false, true} {
		if spoilt {
			b.spoil(t, 10, 3, "\x01")
		}
		for from := range 21 {
			b.refused(t, from, api.ErrDown)
		}
		for _, from := range append([]int{21, 22, 40}, beyond...) {
			b.refused(t, from, api.ErrArg)
		}
	}
	b.crash(t)
	b.refused(t, 10, api.ErrSum)
	b.opened(t, 11)
	b.spoil(t, 10, 3, "\x01")
	b.opened(t, 10).is(t, "b")
}

// A place that doesn't fit is told ahead of its spoilt sectors.
func TestP91PlaceFirst(t *testing.T) {
	b := newDisk(t, 25)
	for i := range 25 {
		b.spoil(t, i, i, "\xff")
	}
	for from := range 6 {
		b.refused(t, from, api.ErrSum)
	}
	for _, from := range append([]int{6, 7, 24, 25}, beyond...) {
		b.refused(t, from, api.ErrArg)
	}
}

// wrong are sectors that are spoilt.
func wrong() map[string]string {
	p := part{gen: 1, count: 1, length: 1, bytes: "a"}
	s := []byte(p.sector())
	m := map[string]string{
		"all ones":      strings.Repeat("\xff", size),
		"one bit":       "\x01" + noughts[1:],
		"last bit":      noughts[1:] + "\x80",
		"noughts' body": noughts[:bodySize] + "\x00\x00\x00\x01",
		"chance":        some(size, 77),
		"turned sum":    string(s[:60]) + string([]byte{s[63], s[62], s[61], s[60]}),
		"another's sum": string(s[:60]) + closedOf(noughts[:60])[60:],
		"no sum":        string(s[:60]) + "\x00\x00\x00\x00",
	}
	return m
}

// A spoilt sector in the place, and only there, bars it: just before it and just behind it there may be any.
func TestP91Spoilt(t *testing.T) {
	t.Parallel()
	const n, from = 44, 12
	for name, s := range wrong() {
		for i := range n {
			b := newDisk(t, n)
			b.opened(t, from).puts(t, some(most, 1), some(most, 2))
			b.lay(t, i, s)
			if in := i >= from && i < from+sectors; in {
				b.refused(t, from, api.ErrSum)
			} else if a := b.opened(t, from); t.Failed() || !a.told.has {
				t.Errorf("%s in %d bars the place", name, i)
			}
			b.lay(t, i, noughts)
			b.opened(t, from)
		}
	}
}

// The sectors about a place may all be spoilt.
func TestP91About(t *testing.T) {
	const from = 7
	b := newDisk(t, from+sectors+5)
	for i := range from + sectors + 5 {
		if i < from || i >= from+sectors {
			b.lay(t, i, some(size, int64(i)))
		}
	}
	b.opened(t, from).empty(t)
	b.opened(t, from).puts(t, "a", some(most, 3), "")
	b.opened(t, from).is(t, "")
	for _, i := range []int{from - 1, from + 1} {
		b.refused(t, i, api.ErrSum)
	}
}

// Open sees what waits, as a reader of the disk does; a crash may take it away.
func TestP91Waits(t *testing.T) {
	const from = 3
	b := newDisk(t, 30)
	b.opened(t, from).puts(t, "lasts", "too")
	b.write(t, from, sectorsOf(partsOf(some(100, 1), 9))...)
	b.opened(t, from).is(t, some(100, 1))
	b.write(t, from+slotSize, sectorsOf(partsOf(some(50, 2), 10))...)
	b.opened(t, from).is(t, some(50, 2))
	b.write(t, from+19, wrong()["chance"])
	b.refused(t, from, api.ErrSum)
	b.write(t, from+19, noughts)
	b.opened(t, from).is(t, some(50, 2))

	one := b.twin()
	one.crash(t)
	one.opened(t, from).is(t, "too")
	two := b.twin()
	two.crash(t, 1, 1, 1)
	two.opened(t, from).is(t, some(100, 1))
	three := b.twin()
	three.crash(t, 0, 0, 0, 1, 1)
	three.opened(t, from).is(t, some(50, 2))
	four := b.twin()
	four.crash(t, 0, 0, 0, 0, 0, 1)
	four.refused(t, from, api.ErrSum)
}

// What lasts beneath a write that waits isn't seen, spoilt or not.
func TestP91Beneath(t *testing.T) {
	const from = 2
	b := newDisk(t, 30)
	a := b.opened(t, from)
	a.puts(t, "a", "b")
	s, _ := b.asked.Read(from + slotSize)
	b.spoil(t, from+slotSize, 20, "\x04")
	b.refused(t, from, api.ErrSum)
	b.write(t, from+slotSize, s)
	b.opened(t, from).is(t, "b")
	b.spoil(t, from, 0, "\x80\x01")
	b.refused(t, from, api.ErrSum)
	b.write(t, from, noughts)
	b.opened(t, from).is(t, "b")
	b.crash(t, 1, 0)
	b.refused(t, from, api.ErrSum)
	b.spoil(t, from+slotSize, 20, "\x04")
	b.opened(t, from).is(t, "b")
}

// Open takes no act from the fuse, and changes nothing.
func TestP91NoAct(t *testing.T) {
	for n := range 3 {
		b := newDisk(t, 20)
		b.opened(t, 0).puts(t, "a")
		b.fuse(n)
		for range 5 {
			b.opened(t, 0).is(t, "a")
		}
		b.same(t)
		if left(b.asked) != n {
			t.Errorf("%d acts are left, not %d", left(b.asked), n)
		}
	}
}

// nothing is a slot in which nothing was written.
var nothing []string

// slots is a disk with two slots that are written by hand, and opened.
func slots(t *testing.T, one, two []string) *asked {
	t.Helper()
	const from = 5
	b := newDisk(t, 30)
	b.lay(t, from, one...)
	b.lay(t, from+slotSize, two...)
	return b.opened(t, from)
}

// Each record is held by each slot, with any generation from 1 on.
func TestP91Held(t *testing.T) {
	t.Parallel()
	for _, s := range texts() {
		for _, gen := range []uint64{1, 2, 255, 256, 1 << 31, 1 << 32, 0x0123456789abcdef, 1 << 63, math.MaxUint64 - 1, math.MaxUint64} {
			l := sectorsOf(partsOf(s, gen))
			slots(t, l, nothing).is(t, s)
			slots(t, nothing, l).is(t, s)
		}
		l := sectorsOf(partsOf(s, 0))
		slots(t, l, nothing).empty(t)
		slots(t, nothing, l).empty(t)
	}
}

// All lengths.
func TestP91Lengths(t *testing.T) {
	for n := range most + 1 {
		s := some(n, int64(n))
		slots(t, sectorsOf(partsOf(s, 3)), sectorsOf(partsOf("x", 2))).is(t, s)
		slots(t, sectorsOf(partsOf("x", 2)), sectorsOf(partsOf(s, 3))).is(t, s)
	}
}

// Of two slots the one with the greater generation is told, of two alike slot 0; generation 0 is none.
func TestP91Greater(t *testing.T) {
	t.Parallel()
	gens := []uint64{0, 1, 2, 3, 127, 128, 255, 256, 257, 511, 512, 1<<31 - 1, 1 << 31, 1 << 32, 1<<32 + 1, 1<<63 - 1, 1 << 63, 1<<63 + 1, math.MaxUint64 - 1, math.MaxUint64}
	for _, n := range gens {
		for _, m := range gens {
			for _, l := range [][2]string{{"one", "two"}, {"", "two"}, {"one", ""}, {some(400, 1), some(400, 2)}, {some(30, 1), some(300, 2)}, {"same", "same"}} {
				a := slots(t, sectorsOf(partsOf(l[0], n)), sectorsOf(partsOf(l[1], m)))
				switch {
				case n == 0 && m == 0:
					a.empty(t)
				case n >= m:
					a.is(t, l[0])
				default:
					a.is(t, l[1])
				}
			}
		}
	}
}

// The next record goes into the slot that doesn't have what is kept, whichever generations there are.
func TestP91Next(t *testing.T) {
	for _, g := range [][2]uint64{{0, 0}, {0, 1}, {1, 0}, {1, 1}, {1, 2}, {2, 1}, {7, 7}, {1 << 40, 3}, {3, 1 << 40}} {
		a := slots(t, sectorsOf(partsOf("one", g[0])), sectorsOf(partsOf(some(60, 1), g[1])))
		next := 5
		if g[0] > 0 && g[0] >= g[1] {
			next += slotSize
		}
		a.puts(t, some(100, 3))
		l := seen(a.disks.asked)[next : next+3]
		if !slices.Equal(l, sectorsOf(partsOf(some(100, 3), max(g[0], g[1])+1))) {
			t.Errorf("%v: the sectors from %d on are %x", g, next, l)
		}
		a.disks.opened(t, 5).is(t, some(100, 3))
	}
}

// altered are the ways in which one part can be another.
func altered() map[string]func(part) part {
	m := map[string]func(part) part{
		"gen more":       func(p part) part { p.gen++; return p },
		"gen less":       func(p part) part { p.gen--; return p },
		"gen far":        func(p part) part { p.gen += 1 << 56; return p },
		"number more":    func(p part) part { p.number++; return p },
		"number less":    func(p part) part { p.number--; return p },
		"number 255":     func(p part) part { p.number = 255; return p },
		"count more":     func(p part) part { p.count++; return p },
		"count less":     func(p part) part { p.count--; return p },
		"count 0":        func(p part) part { p.count = 0; return p },
		"count 10":       func(p part) part { p.count = 10; return p },
		"count 11":       func(p part) part { p.count = 11; return p },
		"count 255":      func(p part) part { p.count = 255; return p },
		"length less":    func(p part) part { p.length--; return p },
		"length 49":      func(p part) part { p.length = 49; return p },
		"length 255":     func(p part) part { p.length = 255; return p },
		"nought 1":       func(p part) part { p.nought = 1; return p },
		"nought 128":     func(p part) part { p.nought = 128; return p },
		"number, nought": func(p part) part { p.number, p.nought = p.number+1, 1; return p },
	}
	for i := range 3 {
		m["noughts "+strconv.Itoa(i)] = func(p part) part {
			b := make([]byte, piece)
			copy(b, p.bytes)
			// Behind the bytes there is none in a full part.
			if n := len(p.bytes); n < piece {
				b[n+i*(piece-1-n)/2] = 1
			} else {
				p.nought = 2
			}
			p.bytes = string(b)
			return p
		}
	}
	return m
}

// A slot of which one part is another holds nothing; the other slot's record is told.
func TestP91Altered(t *testing.T) {
	t.Parallel()
	for _, n := range []int{1, 5, 46, 49, 60, 95, 97, 200, 390, 399, 400} {
		for name, alter := range altered() {
			for i := range len(cut(some(n, 1))) {
				parts := partsOf(some(n, 1), 1<<33)
				parts[i] = alter(parts[i])
				if strings.HasPrefix(name, "gen") && len(parts) == 1 {
					// It is a record of another generation.
					slots(t, sectorsOf(parts), nothing).is(t, some(n, 1))
					continue
				}
				if name == "count less" && len(parts) == 2 && i == 0 {
					// It is a record of one full part, and what stands behind it doesn't count.
					slots(t, sectorsOf(parts), nothing).is(t, some(n, 1)[:piece])
					continue
				}
				l := sectorsOf(parts)
				if a := slots(t, l, nothing); a.told.has {
					t.Fatalf("%d bytes, part %d, %s: the reckoning tells %q", n, i, name, a.told.text)
				}
				slots(t, nothing, l).empty(t)
				old := sectorsOf(partsOf("old", 3))
				slots(t, l, old).is(t, "old")
				slots(t, old, l).is(t, "old")
			}
		}
	}
}

// A slot in which a part's sector is missing, or another part's, or one of another record's, holds nothing, or what that makes.
func TestP91Missing(t *testing.T) {
	t.Parallel()
	for _, n := range []int{0, 1, 48, 49, 97, 300, 400} {
		l := sectorsOf(partsOf(some(n, 1), 8))
		other := sectorsOf(partsOf(some(n, 2), 8))
		older := sectorsOf(partsOf(some(n, 1), 7))
		for i := range l {
			for _, s := range append([]string{noughts, closedOf(noughts[:bodySize]), older[i]}, slices.Delete(slices.Clone(l), i, i+1)...) {
				m := slices.Clone(l)
				m[i] = s
				if a := slots(t, m, nothing); a.told.has && s != older[i] {
					t.Fatalf("%d bytes, part %d: the reckoning tells %q", n, i, a.told.text)
				}
				old := sectorsOf(partsOf("old", 3))
				slots(t, m, old)
				slots(t, old, m)
			}
			// These are the sectors of the parts of some record, though nobody put that.
			m := slices.Clone(l)
			m[i] = other[i]
			if a := slots(t, m, nothing); !a.told.has {
				t.Fatalf("%d bytes, part %d: the reckoning tells nothing", n, i)
			}
		}
	}
}

// A record's parts stand in the slot's first sectors, in their order.
func TestP91Order(t *testing.T) {
	for _, n := range []int{1, 49, 97, 145, 400} {
		l := sectorsOf(partsOf(some(n, 1), 8))
		if len(l) < slotSize {
			slots(t, append([]string{noughts}, l...), nothing).empty(t)
			slots(t, append([]string{l[0]}, l...), nothing)
			slots(t, nothing, append([]string{l[len(l)-1]}, l...))
		}
		for i := range l {
			for j := range i {
				m := slices.Clone(l)
				m[i], m[j] = m[j], m[i]
				slots(t, m, nothing).empty(t)
				slots(t, nothing, m).empty(t)
			}
		}
		if len(l) > 1 {
			slots(t, l[1:], nothing).empty(t)
			slots(t, l[:len(l)-1], nothing).empty(t)
		}
	}
	// Two slots' sectors are no slot's.
	l := sectorsOf(partsOf(some(most, 1), 8))
	slots(t, append(slices.Repeat([]string{noughts}, 5), l[:5]...), l[5:]).empty(t)
}

// pieces are parts of so many bytes each, one behind the other.
func pieces(gen uint64, lengths ...int) (l []part) {
	for i, n := range lengths {
		l = append(l, part{gen: gen, number: byte(i), count: byte(len(lengths)), length: byte(n), bytes: some(n, int64(i))})
	}
	return l
}

// Parts that no record is cut into make none.
func TestP91Cuts(t *testing.T) {
	for _, lengths := range [][]int{
		{48, 0}, {0, 1}, {0, 0}, {1, 1}, {47, 48}, {47, 1}, {48, 47, 48}, {48, 47, 1}, {47, 48, 48}, {48, 48, 0}, {0, 48}, {24, 24}, {48, 0, 48},
		{48, 48, 48, 48, 48, 48, 48, 48, 17}, {48, 48, 48, 48, 48, 48, 48, 48, 48}, {48, 48, 48, 48, 48, 48, 48, 48, 0}, {48, 48, 48, 48, 48, 48, 48, 47, 16}, {47, 48, 48, 48, 48, 48, 48, 48, 17},
		{48, 48, 48, 48, 48, 48, 48, 48, 16, 0}, {48, 48, 48, 48, 48, 48, 48, 48, 48, 1}, {48, 48, 48, 48, 48, 48, 48, 48, 48, 48}, {48, 48, 48, 48, 48, 48, 48, 48, 15, 1}, {40, 40, 40, 40, 40, 40, 40, 40, 40, 40},
	} {
		l := sectorsOf(pieces(6, lengths...))
		slots(t, l, nothing).empty(t)
		slots(t, nothing, l).empty(t)
		slots(t, l, sectorsOf(partsOf("old", 3))).is(t, "old")
		slots(t, sectorsOf(partsOf("old", 3)), l).is(t, "old")
	}
	for _, lengths := range [][]int{{0}, {48}, {48, 1}, {48, 48}, {48, 48, 48, 48, 48, 48, 48, 48, 15}, {48, 48, 48, 48, 48, 48, 48, 48, 16}, {48, 48, 48, 48, 48, 48, 48, 48}} {
		want := ""
		for _, p := range pieces(6, lengths...) {
			want += p.bytes
		}
		slots(t, sectorsOf(pieces(6, lengths...)), nothing).is(t, want)
		slots(t, nothing, sectorsOf(pieces(6, lengths...))).is(t, want)
	}
	slots(t, sectorsOf([]part{{gen: 6}}), nothing).empty(t)
	slots(t, sectorsOf([]part{{gen: 6, count: 1}}), nothing).is(t, "")
}

// A slot all of whose sectors are sound may count any number of parts: what stands in other slots is never taken for its own.
func TestP91Counts(t *testing.T) {
	t.Parallel()
	full := pieces(6, slices.Repeat([]int{piece}, slotSize)...)
	last := full[slotSize-1]
	for count := range 256 {
		for _, length := range []byte{0, 16, 48, 255} {
			for i := range full {
				full[i].count, full[i].number = byte(count), byte(i)
			}
			last.count, last.length = byte(count), length
			full[slotSize-1] = last
			l := sectorsOf(full)
			want, held := "", count >= 1 && count <= 8
			for _, p := range full[:min(count, 8)] {
				want += p.bytes
			}
			for _, a := range []*asked{slots(t, l, nothing), slots(t, nothing, l)} {
				if a.told.has != held {
					t.Fatalf("%d parts are counted, the reckoning tells %v", count, a.told.has)
				}
				if held {
					a.is(t, want)
				}
			}
		}
	}
}

// heads are sound sectors of all kinds, most of them of no record.
func heads(gen uint64) (l []string) {
	l = append(l, sectorsOf(partsOf(some(most, 5), gen))...)
	l = append(l, part{gen: gen}.sector(), part{gen: gen, number: 255, count: 255, length: 255, nought: 255, bytes: strings.Repeat("\xff", piece)}.sector())
	return append(l, part{gen: gen, number: 200, count: 3, bytes: "no record's"}.sector())
}

// What stands behind a record's own sectors doesn't count, but for Seen.
func TestP91Behind(t *testing.T) {
	t.Parallel()
	for _, n := range []int{0, 1, 48, 49, 200, 384, 400} {
		for _, gen := range []uint64{0, 1, 8, 9, 10, 1 << 50, math.MaxUint64} {
			for _, s := range heads(gen) {
				l := sectorsOf(partsOf(some(n, 1), 8))
				for i := len(l); i < slotSize; i++ {
					m := append(slices.Clone(l), slices.Repeat([]string{noughts}, i-len(l))...)
					m = append(m, s)
					slots(t, m, sectorsOf(partsOf("old", 3))).is(t, some(n, 1))
					slots(t, sectorsOf(partsOf("old", 3)), m).is(t, some(n, 1))
				}
				m := append(slices.Clone(l), slices.Repeat([]string{s}, slotSize-len(l))...)
				slots(t, m, m).is(t, some(n, 1))
			}
		}
	}
}

// A text in a slot's first sector that is shorter than one that stood there is the one that is told.
func TestP91Shorter(t *testing.T) {
	long := sectorsOf(partsOf(some(most, 1), 4))
	for n := range most {
		l := sectorsOf(partsOf(some(n, 2), 6))
		l = append(l, long[len(l):]...)
		slots(t, l, sectorsOf(partsOf("old", 5))).is(t, some(n, 2))
	}
}

// Sectors of noughts and their sum are sound, and hold nothing.
func TestP91Noughts(t *testing.T) {
	s := closedOf(noughts[:bodySize])
	for n := range sectors + 1 {
		a := slots(t, slices.Repeat([]string{s}, n), nothing)
		a.empty(t)
		a.puts(t, "a")
		if a.told.seen != 1 {
			t.Errorf("Seen is %d", a.told.seen)
		}
	}
}
