package log_test

import (
	"math"
	"slices"
	"strings"
	"testing"

	"twinlock/api"
	"twinlock/disk"
	"twinlock/log"
)

// A record has a part for each 32 bytes that are begun; the empty one has one, too.
func TestP101Parts(t *testing.T) {
	for n, want := range map[int]int{0: 1, 1: 1, 31: 1, 32: 1, 33: 2, 63: 2, 64: 2, 65: 3, 992: 31, 993: 32, 1023: 32, 1024: 32, 1025: 33, 1 << 20: 1 << 15} {
		if got := log.Parts(strings.Repeat("x", n)); got != want {
			t.Errorf("Parts of %d bytes is %d, not %d", n, got, want)
		}
	}
	for n := range 2000 {
		for _, s := range []string{some(n, 1), strings.Repeat("\x00", n)} {
			if got := log.Parts(s); got != len(cut(s)) {
				t.Errorf("Parts of %d bytes is %d, not %d", n, got, len(cut(s)))
			}
		}
	}
}

// Numbers that are beyond every disk, or below it.
var beyond = []int{-1, -2, -32, -1 << 32, math.MinInt, math.MinInt + 1, api.MaxDisk + 1, 1 << 31, 1 << 32, 1 << 62, math.MaxInt - 8, math.MaxInt - 1, math.MaxInt}

// Of no disk nothing is opened, wherever.
func TestP101None(t *testing.T) {
	for name, d := range map[string]*disk.Disk{"nil": nil, "not made": {}, "new": new(disk.Disk)} {
		for _, from := range append([]int{0, 1}, beyond...) {
			for _, sectors := range append([]int{0, 1}, beyond...) {
				for _, epoch := range []uint64{0, 1, math.MaxUint64} {
					if l, e := log.Open(d, from, sectors, epoch); l != nil || e != api.ErrNil {
						t.Fatalf("%s: Open of %d sectors from %d on is answered %p, %d", name, sectors, from, l, e)
					}
				}
			}
		}
	}
}

// A log must fit on its disk, and its epoch is at least 1.
func TestP101Place(t *testing.T) {
	t.Parallel()
	for _, n := range []int{1, 2, 3, 8, 64, api.MaxDisk} {
		d := newDisk(t, n)
		edges := append([]int{0, 1, 2, 3, n - 3, n - 2, n - 1, n, n + 1}, beyond...)
		for _, from := range edges {
			for _, sectors := range edges {
				fits := from >= 0 && sectors >= 1 && from <= n && sectors <= n-from
				for _, epoch := range []uint64{0, 1, 1 << 63, math.MaxUint64} {
					want := api.ErrArg
					if fits && epoch > 0 {
						want = api.OK
					}
					if l, e := log.Open(d, from, sectors, epoch); e != want || (l != nil) != (want == api.OK) {
						t.Fatalf("Open of %d sectors from %d on, epoch %d, of %d, is answered %p, %d", sectors, from, epoch, n, l, e)
					}
				}
			}
		}
		alike(t, d, newDisk(t, n))
	}
}

// A log works in all of its sectors, be they the disk's first ones, its last, all, or one.
func TestP101Ends(t *testing.T) {
	for _, n := range []int{1, 2, 5, 40} {
		for _, sectors := range []int{1, 2, 4, 33, n} {
			if sectors > n {
				continue
			}
			for _, from := range []int{0, (n - sectors) / 2, n - sectors} {
				a := opened(t, newDisk(t, n), from, sectors, 7)
				a.has(t)
				for i := range sectors {
					a.adds(t, some(i%32, int64(i)))
				}
				a.denied(t, "", api.ErrFull)
				a.again(t).denied(t, "x", api.ErrFull)
			}
		}
	}
}

// With the power off nothing is opened; wrong numbers are told ahead of that, a spoilt sector is not.
func TestP101Down(t *testing.T) {
	d := newDisk(t, 20)
	opened(t, d, 10, 4, 1).adds(t, "a", "b")
	blow(t, d)
	for _, x := range []string{"", "\x01"} {
		spoil(t, d, 13, 3, x)
		for from := range 17 {
			refused(t, d, from, 4, 1, api.ErrDown)
			refused(t, d, from, 4, 0, api.ErrArg)
			refused(t, d, from, 0, 1, api.ErrArg)
		}
		for _, from := range append([]int{17, 18, 19, 20}, beyond...) {
			refused(t, d, from, 4, 1, api.ErrArg)
		}
	}
	d.Crash(nil)
	refused(t, d, 10, 4, 1, api.ErrSum)
	opened(t, d, 10, 3, 1).has(t, "a", "b")
}

// Wrong numbers are told ahead of spoilt sectors.
func TestP101ArgFirst(t *testing.T) {
	d := newDisk(t, 9)
	for i := range 9 {
		spoil(t, d, i, i, "\xff")
	}
	for from := range 6 {
		refused(t, d, from, 4, 1, api.ErrSum)
		refused(t, d, from, 4, 0, api.ErrArg)
		refused(t, d, from, 0, 1, api.ErrArg)
		refused(t, d, from, 10-from, 1, api.ErrArg)
	}
}

// wrong are sectors that are spoilt.
func wrong() map[string]string {
	s := []byte(logOf(1, "a")[0])
	return map[string]string{
		"all ones":      strings.Repeat("\xff", size),
		"one bit":       "\x01" + noughts[1:],
		"last bit":      noughts[1:] + "\x80",
		"noughts' body": noughts[:bodySize] + "\x00\x00\x00\x01",
		"chance":        some(size, 77),
		"turned sum":    string(s[:60]) + string([]byte{s[63], s[62], s[61], s[60]}),
		"another's sum": string(s[:60]) + closedOf(noughts[:60])[60:],
		"no sum":        string(s[:60]) + "\x00\x00\x00\x00",
	}
}

// A spoilt sector in the log bars it, wherever it stands; just before it and just behind it there may be any.
func TestP101Spoilt(t *testing.T) {
	t.Parallel()
	const n, from, sectors = 18, 5, 8
	for _, story := range [][]string{nil, {"a"}, {some(64, 1), "b"}, {some(200, 1), "b"}} {
		for _, s := range wrong() {
			for i := range n {
				d := newDisk(t, n)
				a := opened(t, d, from, sectors, 3).adds(t, story...)
				was := readings(d)[i]
				lay(t, d, i, s)
				if i >= from && i < from+sectors {
					refused(t, d, from, sectors, 3, api.ErrSum)
					refused(t, d, from, sectors, 4, api.ErrSum)
				} else {
					a.again(t).has(t, story...)
				}
				lay(t, d, i, was)
				a.again(t).has(t, story...)
			}
		}
	}
}

// The sectors about a log may all be spoilt.
func TestP101About(t *testing.T) {
	const n, from, sectors = 14, 4, 5
	d := newDisk(t, n)
	for i := range n {
		if i < from || i >= from+sectors {
			lay(t, d, i, some(size, int64(i)))
		}
	}
	a := opened(t, d, from, sectors, 1).adds(t, some(70, 1), "b")
	a.again(t).adds(t, "c").has(t, some(70, 1), "b", "c")
	for _, p := range [][2]int{{from - 1, sectors}, {from, sectors + 1}, {from - 1, 1}, {from + sectors, 1}} {
		refused(t, d, p[0], p[1], 1, api.ErrSum)
	}
}

// Open sees what waits, as a reader of the disk does; a crash may take it away.
func TestP101Waits(t *testing.T) {
	const from, sectors = 3, 6
	d := newDisk(t, 12)
	opened(t, d, from, sectors, 1).adds(t, "lasts")
	l := append(logOf(1, "lasts", some(60, 1), "more"), wrong()["chance"])
	for i, s := range l[1:] {
		if e := d.Write(from+1+i, s); e != api.OK {
			t.Fatalf("Write is answered %d", e)
		}
		want := [][]string{{"lasts"}, {"lasts", some(60, 1)}, {"lasts", some(60, 1), "more"}}
		if i < 3 {
			opened(t, d, from, sectors, 1).has(t, want[i]...)
		}
	}
	refused(t, d, from, sectors, 1, api.ErrSum)
	for _, c := range []struct {
		keep []int
		want []string
	}{
		{nil, []string{"lasts"}},
		{[]int{1, 1}, []string{"lasts", some(60, 1)}},
		{[]int{1, 0, 1}, []string{"lasts"}},
		{[]int{0, 1, 1}, []string{"lasts"}},
		{[]int{1, 1, 1}, []string{"lasts", some(60, 1), "more"}},
	} {
		x := d.Twin()
		x.Crash(c.keep)
		opened(t, x, from, sectors, 1).has(t, c.want...)
	}
	x := d.Twin()
	x.Crash([]int{1, 1, 1, 1})
	refused(t, x, from, sectors, 1, api.ErrSum)
}

// What lasts beneath a write that waits isn't seen, spoilt or not.
func TestP101Beneath(t *testing.T) {
	d := newDisk(t, 8)
	opened(t, d, 2, 4, 1).adds(t, "a", "b")
	d.Write(3, logOf(1, "a", "c")[1])
	spoil(t, d, 3, 20, "\x04")
	opened(t, d, 2, 4, 1).has(t, "a", "c")
	d.Crash(nil)
	refused(t, d, 2, 4, 1, api.ErrSum)
}

// Open takes no act from the fuse, and changes nothing.
func TestP101NoAct(t *testing.T) {
	for n := range 3 {
		d := newDisk(t, 8)
		opened(t, d, 0, 8, 1).adds(t, "a", some(100, 1))
		d.Fuse(n)
		for range 5 {
			opened(t, d, 0, 8, 1).has(t, "a", some(100, 1))
		}
		if s := stand(d); s.acts != n {
			t.Errorf("%d acts are left, not %d", s.acts, n)
		}
	}
}

// Each record, of any epoch, with any salts: they need not rise.
func TestP101Seen(t *testing.T) {
	t.Parallel()
	nums := []uint64{1, 2, 255, 256, 1 << 31, 1 << 32, 0x0123456789abcdef, 1 << 63, math.MaxUint64 - 1, math.MaxUint64}
	for _, s := range texts() {
		for i, n := range nums {
			m := nums[(i+3)%len(nums)]
			l := sectorsOf(partsOf(s, head{n, m, 0}))
			l = append(l, sectorsOf(partsOf(s, head{n, n, m}))...)
			d := laid(t, 70, 2, l...)
			a := opened(t, d, 2, 66, n)
			a.has(t, s, s)
			if a.told.salt != max(m, n) {
				t.Fatalf("the reckoning tells the salt %d", a.told.salt)
			}
			opened(t, d, 2, 66, n^1<<20).has(t)
		}
	}
}

// The numbers' every byte counts.
func TestP101Bytes(t *testing.T) {
	h := head{0x1122334455667788, 0x99aabbccddeeff01, 0}
	next := head{h.epoch, h.salt + 1, h.salt}
	for k := range 8 {
		turn := uint64(1) << (8*k + k)
		d := laid(t, 6, 0, sectorsOf(append(partsOf("a", h), partsOf("b", next)...))...)
		opened(t, d, 0, 6, h.epoch).has(t, "a", "b")
		opened(t, d, 0, 6, h.epoch^turn).has(t)
		x := next
		x.ahead ^= turn
		d = laid(t, 6, 0, sectorsOf(append(partsOf("a", h), partsOf("b", x)...))...)
		opened(t, d, 0, 6, h.epoch).has(t, "a")
		x = h
		x.ahead ^= turn
		d = laid(t, 6, 0, sectorsOf(partsOf("a", x))...)
		opened(t, d, 0, 6, h.epoch).has(t)
	}
}

// A record of the salt 0 is one like others.
func TestP101SaltNought(t *testing.T) {
	l := sectorsOf(append(partsOf("a", head{1, 0, 0}), partsOf("b", head{1, 0, 0})...))
	a := opened(t, laid(t, 6, 0, l...), 0, 6, 1)
	a.has(t, "a", "b")
	a.adds(t, "c")
	a.again(t).has(t, "a", "b", "c")
}

// mid is a log of three records, of which the middle one is laid by these parts.
func mid(t *testing.T, parts []part) *asked {
	t.Helper()
	l := append(logOf(1<<40, "x"), sectorsOf(parts)...)
	l = append(l, sectorsOf(partsOf("y", head{1 << 40, 3, 2}))...)
	return opened(t, laid(t, 44, 3, l...), 3, 40, 1<<40)
}

// alterings are ways in which one part can be another.
func alterings() map[string]func(part) part {
	return map[string]func(part) part{
		"epoch more":     func(p part) part { p.epoch++; return p },
		"epoch less":     func(p part) part { p.epoch--; return p },
		"epoch far":      func(p part) part { p.epoch += 1 << 56; return p },
		"epoch 0":        func(p part) part { p.epoch = 0; return p },
		"salt more":      func(p part) part { p.salt++; return p },
		"salt less":      func(p part) part { p.salt--; return p },
		"salt far":       func(p part) part { p.salt += 1 << 56; return p },
		"ahead more":     func(p part) part { p.ahead++; return p },
		"ahead less":     func(p part) part { p.ahead--; return p },
		"ahead far":      func(p part) part { p.ahead += 1 << 56; return p },
		"number more":    func(p part) part { p.number++; return p },
		"number less":    func(p part) part { p.number--; return p },
		"number 255":     func(p part) part { p.number = 255; return p },
		"count more":     func(p part) part { p.count++; return p },
		"count less":     func(p part) part { p.count--; return p },
		"count 0":        func(p part) part { p.count = 0; return p },
		"count 33":       func(p part) part { p.count = 33; return p },
		"count 255":      func(p part) part { p.count = 255; return p },
		"length less":    func(p part) part { p.length--; return p },
		"length 33":      func(p part) part { p.length = 33; return p },
		"length 255":     func(p part) part { p.length = 255; return p },
		"nought 1":       func(p part) part { p.nought = 1; return p },
		"nought 128":     func(p part) part { p.nought = 128; return p },
		"number, nought": func(p part) part { p.number, p.nought = p.number+1, 1; return p },
		"first nought":   func(p part) part { return behind(p, 0) },
		"middle nought":  func(p part) part { return behind(p, 1) },
		"last nought":    func(p part) part { return behind(p, 2) },
	}
}

// behind is a part whose noughts aren't noughts: the first one of them isn't, the middle one or the last one; a full part has another nought, that ahead of its bytes.
func behind(p part, i int) part {
	n := len(p.bytes)
	if n == piece {
		p.nought = 2
		return p
	}
	b := make([]byte, piece)
	copy(b, p.bytes)
	b[n+i*(piece-1-n)/2] = 1
	p.bytes = string(b)
	return p
}

// A record of which one part is another is none, and ends the log.
func TestP101Altered(t *testing.T) {
	t.Parallel()
	for _, n := range []int{1, 5, 31, 32, 33, 40, 63, 64, 65, 96, 200, 1000, 1024} {
		s := some(n, 1)
		mid(t, partsOf(s, head{1 << 40, 2, 1})).has(t, "x", s, "y")
		for name, alter := range alterings() {
			for i := range len(cut(s)) {
				parts := partsOf(s, head{1 << 40, 2, 1})
				parts[i] = alter(parts[i])
				a := mid(t, parts)
				switch {
				case strings.HasPrefix(name, "salt") && len(parts) == 1:
					// It is a record of another salt, but the last one does not stand behind it.
					a.has(t, "x", s)
				case name == "count less" && len(parts) == 2 && i == 0:
					// It is a record of one full part, and what stands behind it is none.
					a.has(t, "x", s[:piece])
				default:
					a.has(t, "x")
				}
				// What is added stands over it, and the elder parts never come back.
				a.adds(t, "z")
				a.again(t).has(t, a.told.records...)
			}
		}
	}
}

// A record all of whose parts have another epoch, or stand behind another salt, ends the log; one of another salt ends it behind itself.
func TestP101AllAltered(t *testing.T) {
	for _, n := range []int{0, 32, 33, 100, 1024} {
		s := some(n, 2)
		for _, x := range []uint64{1, 2, 1 << 39, 1<<40 - 1, 1<<40 + 1, 1 << 63} {
			mid(t, partsOf(s, head{x, 2, 1})).has(t, "x")
			mid(t, partsOf(s, head{1 << 40, x + 2, 1})).has(t, "x", s)
			mid(t, partsOf(s, head{1 << 40, 2, x + 1})).has(t, "x")
			mid(t, partsOf(s, head{1 << 40, 2, 0})).has(t, "x")
		}
	}
}

// Noughts at a record's end belong to it as its length says.
func TestP101Noughts(t *testing.T) {
	for n := range 70 {
		s := strings.Repeat("a", n)
		for m := range 70 - n {
			l := s + strings.Repeat("\x00", m)
			mid(t, partsOf(l, head{1 << 40, 2, 1})).has(t, "x", l, "y")
		}
	}
}

// A record of which a part's sector is missing is none: blank, another part's, one of the same record that was added ahead, or of another one.
func TestP101Missing(t *testing.T) {
	t.Parallel()
	h := head{1 << 40, 2, 1}
	for _, n := range []int{0, 1, 32, 33, 64, 65, 300, 1024} {
		s, r := some(n, 1), some(n, 2)
		right, elder, other := partsOf(s, h), partsOf(s, head{1 << 40, 1, 1}), partsOf(r, h)
		for i := range right {
			for _, l := range [][]string{{noughts}, {closedOf(noughts[:bodySize])}, sectorsOf(elder[i : i+1]), sectorsOf(slices.Delete(slices.Clone(right), i, i+1))} {
				for _, x := range l {
					m := append(logOf(1<<40, "x"), sectorsOf(right)...)
					m[1+i] = x
					a := opened(t, laid(t, 40, 0, m...), 0, 40, 1<<40)
					if len(right) > 1 || x == noughts || x == closedOf(noughts[:bodySize]) {
						a.has(t, "x")
					}
				}
			}
			// These are the sectors of the parts of some record, though nobody added that.
			m := slices.Clone(right)
			m[i] = other[i]
			want := s[:i*piece] + r[i*piece:min(n, i*piece+piece)] + s[min(n, i*piece+piece):]
			mid(t, m).has(t, "x", want, "y")
		}
	}
}

// A record's sectors stand side by side, in their order, from the first sector on.
func TestP101Order(t *testing.T) {
	for _, n := range []int{1, 33, 65, 97, 500} {
		l := partsOf(some(n, 1), head{1 << 40, 2, 1})
		for i := range l {
			for j := range i {
				m := slices.Clone(l)
				m[i], m[j] = m[j], m[i]
				mid(t, m).has(t, "x")
			}
			mid(t, slices.Insert(slices.Clone(l), i, part{})).has(t, "x")
			m := slices.Delete(slices.Clone(l), i, i+1)
			mid(t, m).tells(t)
		}
	}
	for skip := 1; skip < 4; skip++ {
		for _, s := range []string{noughts, closedOf(noughts[:bodySize]), logOf(2, "a")[0]} {
			l := append(slices.Repeat([]string{s}, skip), logOf(1, "a", "b")...)
			opened(t, laid(t, 10, 1, l...), 1, 9, 1).has(t)
			opened(t, laid(t, 10, 1, l...), 1+skip, 9-skip, 1).has(t, "a", "b")
		}
	}
}

// A record whose last parts the log's end cuts off is none.
func TestP101Cut(t *testing.T) {
	t.Parallel()
	for _, n := range []int{0, 32, 33, 64, 65, 500, 1024} {
		s := some(n, 1)
		l := logOf(5, "a", s, "b")
		whole := len(l) - 1
		for sectors := 1; sectors <= len(l); sectors++ {
			a := opened(t, laid(t, 40, 2, l...), 2, sectors, 5)
			switch {
			case sectors < whole:
				a.has(t, "a")
			case sectors == whole:
				a.has(t, "a", s)
			default:
				a.has(t, "a", s, "b")
			}
			if sectors < whole && a.told.salt != 2 && sectors > 1 {
				t.Fatalf("the reckoning tells the salt %d", a.told.salt)
			}
			for a.add(t, "c") == api.OK {
			}
			a.again(t)
		}
	}
}

// pieces are parts of so many bytes each, one behind the other.
func pieces(lengths ...int) (l []part) {
	for i, n := range lengths {
		l = append(l, part{head: head{1 << 40, 2, 1}, number: byte(i), count: byte(len(lengths)), length: byte(n), bytes: some(n, int64(i))})
	}
	return l
}

// Parts that no record is cut into make none; 1024 bytes are the most.
func TestP101Cuts(t *testing.T) {
	full := slices.Repeat([]int{piece}, mostParts-1)
	for _, l := range [][]int{
		{32, 0}, {0, 1}, {0, 0}, {1, 1}, {31, 32}, {31, 1}, {32, 31, 32}, {32, 31, 1}, {31, 32, 32}, {32, 32, 0}, {0, 32}, {16, 16}, {32, 0, 32},
		append(slices.Clone(full), 0), append([]int{31}, full...), append(append([]int{31}, full...), 1),
		append(slices.Clone(full), 32, 0), append(slices.Clone(full), 32, 1), append(slices.Clone(full), 32, 32), append(slices.Clone(full), 31, 1), append(slices.Clone(full), 32, 32, 32),
	} {
		mid(t, pieces(l...)).has(t, "x")
	}
	for _, l := range [][]int{{0}, {32}, {32, 1}, {32, 32}, full, append(slices.Clone(full), 1), append(slices.Clone(full), 31), append(slices.Clone(full), 32)} {
		want := ""
		for _, p := range pieces(l...) {
			want += p.bytes
		}
		mid(t, pieces(l...)).has(t, "x", want, "y")
	}
}

// Parts may count any number of them; of more than 1024 bytes there is no record, though all of its parts are there.
func TestP101Counts(t *testing.T) {
	t.Parallel()
	for count := range 256 {
		for _, length := range []byte{0, 1, 32, 33} {
			parts := pieces(slices.Repeat([]int{piece}, max(count, mostParts+2))...)
			want := ""
			for i := range parts {
				parts[i].count = byte(count)
				if i < count {
					want += parts[i].bytes
				}
			}
			if count > 0 {
				last := &parts[count-1]
				last.length, last.bytes = length, last.bytes[:min(length, piece)]
				want = want[:(count-1)*piece] + last.bytes
			}
			l := append(logOf(1<<40, "x"), sectorsOf(parts)...)
			a := opened(t, laid(t, len(l)+2, 1, l...), 1, len(l), 1<<40)
			if count >= 1 && count <= mostParts && length <= piece && (length > 0 || count == 1) {
				a.has(t, "x", want)
			} else {
				a.has(t, "x")
			}
		}
	}
}

// What stands behind the records doesn't count, but for the salt: blank sectors, other epochs' records, and such of this one as stood elsewhere.
func TestP101Behind(t *testing.T) {
	t.Parallel()
	tails := [][]string{
		{noughts}, {closedOf(noughts[:bodySize])}, logOf(1, "c"), logOf(2, "c"), logOf(1, "a", "b", "c")[:1], logOf(1, "a", some(40, 1), "c")[2:],
		sectorsOf(partsOf("c", head{1, 4, 3})), sectorsOf(partsOf("c", head{2, 3, 2})), sectorsOf(partsOf("c", head{1, 3, 1})), sectorsOf(partsOf("c", head{1, 3, 0})),
		sectorsOf(partsOf(some(70, 1), head{1, 3, 2})[1:]), append([]string{noughts}, sectorsOf(partsOf("c", head{1, 3, 2}))...),
	}
	for _, records := range [][]string{{"a", "b"}, {some(40, 3), some(64, 4)}} {
		for _, tail := range tails {
			l := append(logOf(1, records...), tail...)
			a := opened(t, laid(t, 12, 0, l...), 0, 12, 1)
			a.has(t, records...)
			a.adds(t, "d", some(50, 5))
			a.again(t).has(t, append(slices.Clone(records), "d", some(50, 5))...)
		}
	}
}
