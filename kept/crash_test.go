package kept_test

import (
	"math/rand"
	"slices"
	"testing"

	"twinlock/api"
	"twinlock/disk"
	"twinlock/kept"
)

// keepings are all ways in which a crash keeps n sectors' writes, of which one waits for each.
func keepings(n int) (l [][]int) {
	for k := range 1 << n {
		keep := make([]int, n)
		for i := range keep {
			keep[i] = k >> i & 1
		}
		l = append(l, keep)
	}
	return l
}

// sorts are texts of one, two and nine parts.
func sorts() []string {
	return []string{"", "a", some(48, 1), some(49, 1), some(96, 2), some(385, 1), some(most, 1)}
}

// grown is a disk on which some texts were put, one behind the other, and the record from the sector 2 on.
func grown(t *testing.T, texts ...string) *asked {
	t.Helper()
	a := newDisk(t, 24).opened(t, 2)
	a.puts(t, texts...)
	return a
}

// told is what a record tells when it is opened again.
func told(t *testing.T, d *disk.Disk, from int) (string, bool) {
	t.Helper()
	k, e := kept.Open(d, from)
	if e != api.OK {
		t.Fatalf("Open is answered %d", e)
	}
	return k.Get()
}

// broken breaks a Put off behind so many acts, and keeps of it what each crash may: there is the old record then, and the new one only if all its parts were kept.
func broken(t *testing.T, a *asked, acts int, text string) {
	t.Helper()
	old, has := a.kept.Get()
	a.disks.fuse(acts)
	a.denied(t, text, api.ErrDown)
	n := len(cut(text))
	for _, keep := range keepings(acts) {
		d := a.disks.asked.Twin()
		d.Crash(keep)
		s, is := told(t, d, a.told.from)
		if acts == n && !slices.Contains(keep, 0) {
			if s != text || !is {
				t.Fatalf("%d parts, all were kept; there is %q", n, s)
			}
		} else if s != old || is != has {
			t.Fatalf("%d parts, of which %d were written, and %v kept; there is %q, %v, not %q, %v", n, acts, keep, s, is, old, has)
		}
		k, _ := kept.Open(d, a.told.from)
		next := some(150, 9)
		if e := k.Put(next); e != api.OK {
			t.Fatalf("the next Put is answered %d", e)
		}
		d.Crash(nil)
		if s, is = told(t, d, a.told.from); s != next || !is {
			t.Fatalf("behind the next Put there is %q", s)
		}
	}
}

// Wherever a Put is broken off, whatever a crash keeps: there is the old record or the new one.
func TestP94Broken(t *testing.T) {
	t.Parallel()
	stories := [][]string{nil, {""}, {"a"}, {some(most, 2)}, {some(60, 3), some(most, 4)}, {some(most, 4), "b"}, {some(100, 1), some(200, 2), some(300, 3)}}
	for _, story := range stories {
		for _, text := range sorts() {
			for acts := range len(cut(text)) + 1 {
				broken(t, grown(t, story...), acts, text)
			}
		}
	}
}

// So it is, if the new record is one of which the slot had the very parts already, or the other slot has.
func TestP94Alike(t *testing.T) {
	t.Parallel()
	for _, text := range sorts() {
		for _, story := range [][]string{{text}, {text, text}, {text, "b"}, {text, "b", text}, {text, text, text, text}} {
			for acts := range len(cut(text)) + 1 {
				broken(t, grown(t, story...), acts, text)
			}
		}
	}
}

// A Put that told OK is there behind every crash, whatever it would keep.
func TestP94Done(t *testing.T) {
	for _, text := range sorts() {
		for _, keep := range [][]int{nil, {0}, {1}, {0, 1, 0, 1}, {1, 1, 1, 1, 1, 1, 1, 1, 1, 1}, {-1, 5, 1 << 40}} {
			a := grown(t)
			for range 4 {
				a.puts(t, text)
				a.disks.crash(t, keep...)
				a.disks.opened(t, 2).is(t, text)
				a.puts(t, "x")
				a.disks.blow(t)
				a.disks.crash(t, keep...)
				a.disks.opened(t, 2).is(t, "x")
			}
		}
	}
}

// The power may go at just the act behind a Put's last one: that one told OK.
func TestP94LastAct(t *testing.T) {
	for _, text := range sorts() {
		a := grown(t, "old")
		a.disks.fuse(len(cut(text)) + 1)
		a.puts(t, text)
		a.denied(t, "x", api.ErrDown)
		for _, keep := range [][]int{nil, {0}, {1}} {
			b := a.disks.twin()
			b.crash(t, keep...)
			b.opened(t, 2).is(t, text)
		}
	}
}

// twice is a disk behind each way in which a Put is broken off and a crash keeps of it what it likes; f is asked each time.
func twice(t *testing.T, b *both, text string, f func(*both)) {
	t.Helper()
	for acts := range len(cut(text)) + 1 {
		for _, keep := range keepings(acts) {
			c := b.twin()
			a := c.opened(t, 2)
			c.fuse(acts)
			a.denied(t, text, api.ErrDown)
			c.crash(t, keep...)
			f(c)
		}
	}
}

// Puts broken off one behind the other, each with all its crashes: never is there other than the old one and those that were broken off last.
func TestP94Again(t *testing.T) {
	t.Parallel()
	one, two, three := some(97, 1), some(96, 2), some(60, 3)
	for _, story := range [][]string{nil, {"old"}, {some(145, 8), "old"}} {
		first := grown(t, story...)
		was := ""
		if len(story) > 0 {
			was = "old"
		}
		twice(t, first.disks, one, func(b *both) {
			old, has := told(t, b.asked, 2)
			if old != one && (old != was || has != (len(story) > 0)) {
				t.Fatalf("there is %q, %v", old, has)
			}
			twice(t, b, two, func(b *both) {
				next, is := told(t, b.asked, 2)
				if next != two && (next != old || is != has) {
					t.Fatalf("there is %q, %v", next, is)
				}
				twice(t, b, three, func(b *both) {
					last, is := told(t, b.asked, 2)
					if last != three && (last != next || is != (has || next == two)) {
						t.Fatalf("there is %q, %v", last, is)
					}
				})
			})
		})
	}
}

// Plays: Puts, whole or broken off, crashes that keep anything, and between them Puts that aren't: behind each crash there is what was put last, or what was broken off.
func TestP94Plays(t *testing.T) {
	for seed := range int64(60) {
		r := rand.New(rand.NewSource(seed))
		d, _ := disk.New(50)
		from := r.Intn(31)
		k, _ := kept.Open(d, from)
		last, has := "", false
		for range 80 {
			tried := some(r.Intn(most+1), r.Int63())
			d.Fuse(r.Intn(14))
			e := k.Put(tried)
			if e != api.OK && e != api.ErrDown {
				t.Fatalf("Put is answered %d", e)
			}
			if e == api.OK {
				last, has = tried, true
			}
			if s, is := k.Get(); s != last || is != has {
				t.Fatalf("Get is answered %q, %v, not %q, %v", s, is, last, has)
			}
			if e == api.OK && r.Intn(3) > 0 {
				continue
			}
			keep := make([]int, r.Intn(12))
			for i := range keep {
				keep[i] = r.Intn(4) * (1 - r.Intn(2)*2)
			}
			d.Crash(keep)
			if s, is := told(t, d, from); (s != last || is != has) && (e == api.OK || s != tried || !is) {
				t.Fatalf("there is %q, %v, not %q, %v, nor %q", s, is, last, has, tried)
			}
			k, _ = kept.Open(d, from)
			last, has = k.Get()
		}
	}
}
