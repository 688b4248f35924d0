package log_test

import (
	"math/rand"
	"slices"
	"testing"

	"twinlock/api"
	"twinlock/disk"
	"twinlock/log"
)

// keepings are ways in which a crash keeps n sectors' writes, of which one waits for each: all of them, or, of very many, all but one, beginnings, and some others.
func keepings(n int) (l [][]int) {
	if n <= 7 {
		for k := range 1 << n {
			keep := make([]int, n)
			for i := range keep {
				keep[i] = k >> i & 1
			}
			l = append(l, keep)
		}
		return l
	}
	r := rand.New(rand.NewSource(int64(n)))
	for i := range n + 1 {
		but, first, any := make([]int, n), make([]int, n), make([]int, n)
		for k := range n {
			but[k], first[k], any[k] = bit(k != i), bit(k < i), r.Intn(2)
		}
		l = append(l, but, first)
		if i < 4 {
			l = append(l, any)
		}
	}
	return l
}

// bit is 1 for true.
func bit(is bool) int {
	if is {
		return 1
	}
	return 0
}

// from and sectors are where the logs of these tests stand, on disks of a few sectors more.
const from, sectors = 2, 80

// grown is a disk with a log of the epoch 1, to which some records were added.
func grown(t *testing.T, story ...string) *asked {
	t.Helper()
	return opened(t, newDisk(t, from+sectors+3), from, sectors, 1).adds(t, story...)
}

// torn breaks an Add off behind so many acts, and asks f of the log, opened again behind each crash of it; whole is whether all of the record's parts were kept.
func torn(t *testing.T, d *disk.Disk, epoch uint64, record string, acts int, f func(a *asked, whole bool)) {
	t.Helper()
	x := d.Twin()
	a := opened(t, x, from, sectors, epoch)
	x.Fuse(acts)
	a.denied(t, record, api.ErrDown)
	for _, keep := range keepings(acts) {
		y := x.Twin()
		y.Crash(keep)
		f(opened(t, y, from, sectors, epoch), acts == len(cut(record)) && !slices.Contains(keep, 0))
	}
}

// sorts are records of one, two and more parts.
func sorts() []string {
	return []string{"", "a", some(32, 1), some(33, 1), some(64, 2), some(65, 2), some(150, 3), some(200, 3), some(most, 1)}
}

// stories are records that were added ahead.
func stories() [][]string {
	return [][]string{nil, {""}, {"b"}, {some(33, 5)}, {"b", "c", ""}, {some(100, 6), "b", some(64, 7)}, {some(most, 8)}}
}

// Wherever an Add is broken off, whatever a crash keeps: there are the records that were there, and perhaps the broken one, whole; and what is added next stands behind these.
func TestP104Broken(t *testing.T) {
	t.Parallel()
	for i, story := range stories() {
		for _, record := range sorts() {
			// The longest record has so many acts that it comes behind a few stories only.
			if len(record) == most && i%3 > 0 {
				continue
			}
			for acts := range len(cut(record)) + 1 {
				torn(t, grown(t, story...).disk, 1, record, acts, func(a *asked, whole bool) {
					want := slices.Clone(story)
					if whole {
						want = append(want, record)
					}
					a.has(t, want...)
					for _, next := range []string{"x", some(75, 9)} {
						a.adds(t, next)
						a.disk.Crash(nil)
						want = append(want, next)
						a.again(t).has(t, want...)
					}
				})
			}
		}
	}
}

// So it is, if the record is one that is there already, or stood behind them in another epoch.
func TestP104Alike(t *testing.T) {
	t.Parallel()
	for _, record := range []string{"", "a", some(33, 1), some(96, 2)} {
		for _, story := range [][]string{{record}, {record, record}, {"b", record}} {
			for epoch := uint64(1); epoch < 4; epoch++ {
				d := grown(t, story...).disk
				opened(t, d, from, sectors, 2).adds(t, story[:epoch/2]...)
				for acts := range len(cut(record)) + 1 {
					ahead := opened(t, d, from, sectors, epoch).told.records
					torn(t, d, epoch, record, acts, func(a *asked, whole bool) {
						want := slices.Clone(ahead)
						if whole {
							want = append(want, record)
						}
						a.has(t, want...)
						a.adds(t, record, "x", record)
						a.again(t).has(t, append(want, record, "x", record)...)
					})
				}
			}
		}
	}
}

// A record that was told OK is there behind every crash, whatever it would keep.
func TestP104Done(t *testing.T) {
	for _, record := range sorts() {
		for _, keep := range [][]int{nil, {0}, {1}, {0, 1, 0, 1}, slices.Repeat([]int{1}, 40), {-1, 5, 1 << 40}} {
			a := grown(t)
			var all []string
			for range 2 {
				for _, s := range []string{record, "x"} {
					a.adds(t, s)
					all = append(all, s)
					if s == "x" {
						blow(t, a.disk)
					}
					a.disk.Crash(keep)
					a = a.again(t)
					a.has(t, all...)
				}
			}
		}
	}
}

// The power may go at just the act behind an Add's last one: that one told OK.
func TestP104LastAct(t *testing.T) {
	for _, record := range sorts() {
		a := grown(t, "old")
		a.disk.Fuse(len(cut(record)) + 1)
		a.adds(t, record)
		a.denied(t, "x", api.ErrDown)
		for _, keep := range [][]int{nil, {0}, {1}} {
			d := a.disk.Twin()
			d.Crash(keep)
			opened(t, d, from, sectors, 1).has(t, "old", record)
		}
	}
}

// tornAll tears a record's Add off behind all its acts.
func tornAll(t *testing.T, d *disk.Disk, record string, f func(a *asked, whole bool)) {
	t.Helper()
	for acts := range len(cut(record)) + 1 {
		torn(t, d, 1, record, acts, f)
	}
}

// Adds broken off one behind the other, each with all its crashes: never is there other than what was told, and the broken ones that were kept whole.
func TestP104Again(t *testing.T) {
	t.Parallel()
	one, two, three := some(70, 1), some(64, 2), some(40, 3)
	for _, story := range [][]string{nil, {"old"}, {some(45, 8), "old"}} {
		check := func(a *asked, want []string, whole bool, record string) []string {
			want = slices.Clone(want)
			if whole {
				want = append(want, record)
			}
			a.has(t, want...)
			return want
		}
		tornAll(t, grown(t, story...).disk, one, func(a *asked, whole bool) {
			was := check(a, story, whole, one)
			tornAll(t, a.disk, two, func(b *asked, whole bool) {
				was := check(b, was, whole, two)
				tornAll(t, b.disk, three, func(c *asked, whole bool) {
					was := check(c, was, whole, three)
					c.adds(t, "next")
					c.again(t).has(t, append(was, "next")...)
				})
			})
		})
	}
}

// Behind each crash of a broken Add there are whole Adds, and another broken one: the records come as they were told.
func TestP104Further(t *testing.T) {
	t.Parallel()
	for _, first := range []string{"", some(33, 1), some(90, 2)} {
		for _, next := range []string{"n", some(64, 3), some(65, 4), some(130, 5)} {
			for _, last := range []string{"", some(50, 6)} {
				tornAll(t, grown(t, "old").disk, first, func(a *asked, whole bool) {
					a.adds(t, next)
					was := a.told.records
					tornAll(t, a.disk, last, func(b *asked, whole bool) {
						want := slices.Clone(was)
						if whole {
							want = append(want, last)
						}
						b.has(t, want...)
					})
				})
			}
		}
	}
}

// Plays: Adds, whole or broken off, crashes that keep anything, and logs that fill: behind each crash there is what was told, and perhaps what was broken off.
func TestP104Plays(t *testing.T) {
	t.Parallel()
	for seed := range int64(150) {
		r := rand.New(rand.NewSource(seed))
		n := 1 + r.Intn(60)
		d := newDisk(t, n+4)
		at := r.Intn(5)
		l, e := log.Open(d, at, n, 1)
		if e != api.OK {
			t.Fatalf("Open is answered %d", e)
		}
		var told []string
		for range 60 {
			record := some(r.Intn(40)*r.Intn(8)*r.Intn(5), r.Int63())
			room := l.Room()
			if len(record) > most || log.Parts(record) > room {
				continue
			}
			d.Fuse(r.Intn(20))
			e := l.Add(record)
			switch e {
			case api.OK:
				told = append(told, record)
				room -= log.Parts(record)
			case api.ErrDown:
			default:
				t.Fatalf("Add is answered %d", e)
			}
			if s := l.Records(); !slices.Equal(s, told) || l.Room() != room {
				t.Fatalf("Records are %.40q, not %.40q; Room is %d, not %d", s, told, l.Room(), room)
			}
			if e == api.OK && r.Intn(3) > 0 {
				continue
			}
			keep := make([]int, r.Intn(12))
			for i := range keep {
				keep[i] = r.Intn(4) * (1 - r.Intn(2)*2)
			}
			d.Crash(keep)
			l, e = log.Open(d, at, n, 1)
			if e != api.OK {
				t.Fatalf("Open is answered %d", e)
			}
			s := l.Records()
			if !slices.Equal(s, told) && !slices.Equal(s, append(slices.Clone(told), record)) {
				t.Fatalf("Records are %.40q, not %.40q, nor these and %.40q", s, told, record)
			}
			told = s
		}
	}
}
