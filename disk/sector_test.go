package disk_test

import (
	"encoding/hex"
	"math"
	"math/rand"
	"strings"
	"testing"
	"unsafe"

	"twinlock/api"
	"twinlock/disk"
)

// all is a text of all bytes.
func all() string {
	b := make([]byte, 256)
	for i := range b {
		b[i] = byte(i)
	}
	return string(b)
}

// What another program (zlib) reckons.
func TestP75SumExamples(t *testing.T) {
	for s, want := range map[string]uint32{
		"":          0,
		"123456789": 0xcbf43926,
		"\x00":      0xd202ef8d,
		"\xff":      0xff000000,
		"a":         0xe8b7be43,
		"abc":       0x352441c2,
		"The quick brown fox jumps over the lazy dog": 0x414fa339,
		all():                        0x29058c73,
		noughts:                      0x758d6336,
		noughts[:60]:                 0x04128908,
		strings.Repeat("\xff", 60):   0xf48cf14d,
		all()[:60]:                   0xb0ec7fee,
		all()[196:]:                  0xe306f0f2,
		strings.Repeat("a", 1000000): 0xdc25bfbc,
	} {
		if x := disk.Sum(s); x != want {
			t.Errorf("%d bytes: %08x, not %08x", len(s), x, want)
		}
	}
}

func TestP75SumLengths(t *testing.T) {
	for n := range 300 {
		for _, s := range []string{strings.Repeat("\x00", n), strings.Repeat("\x80", n), strings.Repeat("\xff", n), some(n, int64(n))} {
			if x := disk.Sum(s); x != sumOf(s) || x != byWords(s) || disk.Sum(s) != x {
				t.Errorf("%d bytes: %08x, not %08x", n, x, sumOf(s))
			}
		}
	}
	for c := range 256 {
		if s := string([]byte{byte(c)}); disk.Sum(s) != byWords(s) {
			t.Errorf("byte %d: %08x", c, disk.Sum(s))
		}
	}
}

func TestP75SumChance(t *testing.T) {
	for seed := range int64(2000) {
		s := some(rand.New(rand.NewSource(seed)).Intn(2000), seed)
		if disk.Sum(s) != sumOf(s) {
			t.Fatalf("%d bytes by %d", len(s), seed)
		}
	}
	if s := some(1<<22+3, 1); disk.Sum(s) != sumOf(s) {
		t.Errorf("%d bytes", len(s))
	}
}

func TestP75Close(t *testing.T) {
	for seed := range int64(500) {
		body := some(bodySize, seed)
		s, e := disk.Close(body)
		if s != closedOf(body) || e != api.OK {
			t.Errorf("Close of %x: %d, %x", body, e, s)
		}
		looks(t, s, body, 1)
	}
	for body, want := range map[string]string{
		noughts[:60]:               "08891204",
		strings.Repeat("\xff", 60): "4df18cf4",
		all()[:60]:                 "ee7fecb0",
		all()[196:]:                "f2f006e3",
	} {
		s, e := disk.Close(body)
		if e != api.OK || len(s) != size || s[:60] != body || hex.EncodeToString([]byte(s[60:])) != want {
			t.Errorf("Close of %x: %d, %x", body, e, s)
		}
		looks(t, s, body, 1)
	}
}

func TestP75CloseLengths(t *testing.T) {
	for n := range 200 {
		s, e := disk.Close(some(n, 1))
		if want := n == bodySize; want != (e == api.OK) || !want && (e != api.ErrArg || s != "") {
			t.Errorf("Close of %d bytes: %d, %x", n, e, s)
		}
	}
	if s, e := disk.Close(some(1<<20, 1)); s != "" || e != api.ErrArg {
		t.Errorf("Close of many bytes: %d, %d", e, len(s))
	}
}

// looks asks Look.
func looks(t *testing.T, s, body string, state int) {
	t.Helper()
	if b, x := disk.Look(s); b != body || x != state {
		t.Fatalf("Look of %x: %x, %d, not %x, %d", s, b, x, body, state)
	}
}

func TestP75Look(t *testing.T) {
	looks(t, noughts, "", 0)
	for seed := range int64(300) {
		body := some(bodySize, seed)
		s := closedOf(body)
		looks(t, s, body, 1)
		looks(t, some(size, seed), "", 2)
		for i := range 8 * size {
			looks(t, turned(s, i), "", 2)
		}
	}
	for i := range 8 * size {
		s := turned(noughts, i)
		body, state := lookOf(s)
		looks(t, s, body, state)
		looks(t, s, "", 2)
	}
}

// Of what has not a sector's bytes nothing is sound, not even noughts, or a text with its sum behind it.
func TestP75LookLengths(t *testing.T) {
	s := closedOf(all()[:60])
	for n := range 200 {
		if n == size {
			continue
		}
		looks(t, strings.Repeat("\x00", n), "", 2)
		looks(t, some(n, 2), "", 2)
		if n < size {
			looks(t, s[:n], "", 2)
			looks(t, s[size-n:], "", 2)
		} else {
			looks(t, s+some(n-size, 3), "", 2)
			looks(t, s+strings.Repeat("\x00", n-size), "", 2)
			looks(t, strings.Repeat("\x00", n-size)+s, "", 2)
		}
		if n >= 4 {
			looks(t, closedOf(some(n-4, 4)), "", 2)
		}
	}
	looks(t, s+s, "", 2)
	looks(t, noughts+s, "", 2)
	looks(t, noughts+noughts, "", 2)
}

// A sum in another order, or of other bytes, is none.
func TestP75LookSums(t *testing.T) {
	body := all()[:60]
	s := closedOf(body)
	for _, sum := range []string{
		"\x00\x00\x00\x00", "\xff\xff\xff\xff",
		string([]byte{s[63], s[62], s[61], s[60]}),
		string([]byte{^s[60], ^s[61], ^s[62], ^s[63]}),
		closedOf(all()[1:61])[60:],
	} {
		looks(t, body+sum, "", 2)
	}
	looks(t, s[60:]+body, "", 2)
}

// What is answered is new memory.
func TestP75New(t *testing.T) {
	b := []byte(closedOf(all()[:60]))
	s, _ := disk.Look(unsafe.String(&b[0], size))
	c, e := disk.Close(unsafe.String(&b[0], bodySize))
	if clear(b); s != all()[:60] || c != closedOf(s) || e != api.OK {
		t.Errorf("behind a change: %x, %x", s, c)
	}
}

// Of none: zeros, ErrNil, nothing.
func TestP75None(t *testing.T) {
	for name, d := range nones() {
		for range 3 {
			if d.Sectors() != 0 || d.Waits() != 0 || d.Down() || d.Twin() != nil {
				t.Errorf("%s: %d sectors, %d wait, Down is %v", name, d.Sectors(), d.Waits(), d.Down())
			}
			for _, i := range append(beyond, 0, 1) {
				if b, e := d.Read(i); b != "" || e != api.ErrNil {
					t.Errorf("%s: Read of %d: %d, %q", name, i, e, b)
				}
				for _, b := range []string{"", sA, sA[1:]} {
					if e := d.Write(i, b); e != api.ErrNil {
						t.Errorf("%s: Write to %d is answered %d", name, i, e)
					}
					if e := d.Spoil(i, i, b); e != api.ErrNil {
						t.Errorf("%s: Spoil of %d is answered %d", name, i, e)
					}
				}
			}
			if e := d.Sync(); e != api.ErrNil {
				t.Errorf("%s: Sync is answered %d", name, e)
			}
			for _, n := range []int{-1, 0, 1, math.MinInt, math.MaxInt} {
				d.Fuse(n)
				if e := d.Sync(); e != api.ErrNil || d.Down() {
					t.Errorf("%s: Sync is answered %d", name, e)
				}
			}
			d.Crash(nil)
			d.Crash([]int{1, -1})
		}
	}
}

// turned is a text with one bit turned; of each byte the lowest bit stands first.
func turned(s string, i int) string {
	b := []byte(s)
	b[i/8] ^= 1 << (i % 8)
	return string(b)
}

// bodies are some bodies of sectors.
func bodies() []string {
	return []string{noughts[:60], strings.Repeat("\xff", 60), all()[:60], all()[196:], some(60, 5), strings.Repeat("\x55", 60)}
}

// notSound asks that a sector is not sound.
func notSound(t *testing.T, s string) {
	t.Helper()
	if body, state := disk.Look(s); state == 1 || body != "" {
		t.Fatalf("Look of %x: %x, %d", s, body, state)
	}
}

// Bits are turned, the first and the last at most 31 bits apart, at every place: these two alone, all from the one to the other, and some that are drawn.
func TestP77Turned(t *testing.T) {
	r := rand.New(rand.NewSource(1))
	for _, body := range bodies() {
		s, _ := disk.Close(body)
		for first := range 8 * size {
			for last := first; last < min(first+32, 8*size); last++ {
				for k := range 5 {
					x := turned(s, first)
					for i := first + 1; i < last; i++ {
						if k == 1 || k > 1 && r.Intn(2) == 0 {
							x = turned(x, i)
						}
					}
					if last > first {
						x = turned(x, last)
					}
					notSound(t, x)
				}
			}
		}
	}
}

// Any four bytes side by side are others.
func TestP77Bytes(t *testing.T) {
	r := rand.New(rand.NewSource(2))
	for _, body := range bodies() {
		s, _ := disk.Close(body)
		for at := range size - 3 {
			for k := range 200 {
				b := []byte(s)
				r.Read(b[at : at+1+k%4])
				if string(b) != s {
					notSound(t, string(b))
				}
			}
			b := []byte(s)
			clear(b[at : at+4])
			if string(b) != s {
				notSound(t, string(b))
			}
		}
	}
}

// A sector on a disk that is spoilt is not sound, and sound again when it is spoilt back.
func TestP77Spoilt(t *testing.T) {
	r := rand.New(rand.NewSource(3))
	for _, body := range bodies() {
		a := start(t, 2)
		s, _ := disk.Close(body)
		a.writes(t, 1, s)
		a.synced(t)
		for at := range size {
			for length := 1; length <= min(maxSpoil, size-at); length++ {
				x := []byte(some(length, r.Int63()))
				x[r.Intn(length)] |= 1 << r.Intn(8)
				a.spoil(t, 1, at, string(x))
				b, _ := a.disk.Read(1)
				notSound(t, b)
				a.spoil(t, 1, at, string(x))
				b, _ = a.disk.Read(1)
				looks(t, b, body, 1)
			}
		}
	}
}

// The chapter's examples of a sum and of sectors.
func TestP75Examples(t *testing.T) {
	if x := disk.Sum("123456789"); x != 0xcbf43926 {
		t.Errorf("%08x", x)
	}
	looks(t, noughts, "", 0)
	body := some(bodySize, 6)
	s, e := disk.Close(body)
	if e != api.OK {
		t.Fatal(e)
	}
	looks(t, s, body, 1)
	looks(t, s[:size-1], "", 2)
}
