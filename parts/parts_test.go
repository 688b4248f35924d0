package parts_test

import (
	"math"
	"slices"
	"strings"
	"testing"

	"twinlock/api"
	"twinlock/disk"
	"twinlock/parts"
)

// most is how many bytes the texts of these tests have at most.
const most = 500

// text is a text of n bytes.
func text(n int) string {
	b := make([]byte, n)
	for i := range b {
		b[i] = byte(1 + i%200)
	}
	return string(b)
}

// heads are numbers that stand ahead of parts, from none to three, and how many bytes a part has then.
func heads() map[int][]uint64 {
	return map[int][]uint64{56: nil, 48: {7}, 40: {math.MaxUint64, 0}, 32: {1, 0x0102030405060708, 3}}
}

func TestCount(t *testing.T) {
	for size, nums := range heads() {
		for n := range 5 * size {
			want := 1
			for want*size < n {
				want++
			}
			if got := parts.Count(text(n), len(nums)); got != want {
				t.Errorf("%d bytes, %d numbers: there are %d parts, not %d", n, len(nums), got, want)
			}
		}
	}
}

// What a body is, byte by byte.
func TestBodies(t *testing.T) {
	want := []string{
		"\x01\x00\x00\x00\x00\x00\x00\x00\x08\x07\x06\x05\x04\x03\x02\x01\x03\x00\x00\x00\x00\x00\x00\x00" + "\x00\x02\x20\x00" + text(32),
		"\x01\x00\x00\x00\x00\x00\x00\x00\x08\x07\x06\x05\x04\x03\x02\x01\x03\x00\x00\x00\x00\x00\x00\x00" + "\x01\x02\x01\x00" + text(33)[32:] + strings.Repeat("\x00", 31),
	}
	if l := parts.Bodies(text(33), heads()[32]...); !slices.Equal(l, want) {
		t.Errorf("the bodies are %x, not %x", l, want)
	}
	for i, n := range heads()[32] {
		if got := parts.Number(want[1], i); got != n {
			t.Errorf("the number %d is %x, not %x", i, got, n)
		}
	}
	if n := parts.Number("", 2); n != 0 {
		t.Errorf("of no body the number is %d", n)
	}
}

func TestGreatest(t *testing.T) {
	var l []string
	if n := parts.Greatest(l, 0); n != 0 {
		t.Errorf("of none the greatest is %d", n)
	}
	for i, n := range []uint64{3, 9, 0, math.MaxUint64, 12} {
		l = append(l, "", parts.Bodies("", n, uint64(i))[0])
		want := []uint64{3, 9, 9, math.MaxUint64, math.MaxUint64}[i]
		if got := parts.Greatest(l, 0); got != want {
			t.Errorf("the greatest is %d, not %d", got, want)
		}
		if got := parts.Greatest(l, 1); got != uint64(i) {
			t.Errorf("the greatest second one is %d, not %d", got, i)
		}
	}
}

// found asks for the text that bodies begin with.
func found(t *testing.T, bodies []string, nums int, want string, is bool) {
	t.Helper()
	if s, ok := parts.Text(bodies, nums, most); s != want || ok != is {
		t.Fatalf("Text is answered %q, %v, not %q, %v", s, ok, want, is)
	}
}

// A text is found by its parts, whatever stands behind them, and not if one of them is missing or has a byte that is another.
func TestText(t *testing.T) {
	for size, nums := range heads() {
		found(t, nil, len(nums), "", false)
		found(t, []string{""}, len(nums), "", false)
		for _, n := range []int{0, 1, size - 1, size, size + 1, 3*size - 1, most - 1, most} {
			l := parts.Bodies(text(n), nums...)
			found(t, l, len(nums), text(n), true)
			found(t, append(slices.Clone(l), "", l[0]), len(nums), text(n), true)
			found(t, append([]string{""}, l...), len(nums), "", false)
			for i := range l {
				m := slices.Clone(l)
				m[i] = ""
				found(t, m, len(nums), "", false)
				found(t, l[:i], len(nums), "", false)
				for at := range len(nums)*8 + 4 {
					// Some of these make another text: a single part has other numbers, the first of two stands alone, the last one has a nought more.
					if n <= size || n <= 2*size && i == 0 && at == len(nums)*8+1 || i == len(l)-1 && at == len(nums)*8+2 {
						continue
					}
					b := []byte(l[i])
					b[at] ^= 3
					m[i] = string(b)
					found(t, m, len(nums), "", false)
				}
			}
		}
		for _, n := range []int{most + 1, most + size} {
			found(t, parts.Bodies(text(n), nums...), len(nums), "", false)
		}
	}
}

// What is written is read again: it lasts, and what it was closed of is told, and no text of a blank sector.
func TestReadWrite(t *testing.T) {
	d, _ := disk.New(9)
	l := parts.Bodies(text(100), 5)
	if e := parts.Write(d, 2, l); e != api.OK || d.Waits() != 0 {
		t.Fatalf("Write is answered %d, %d writes wait", e, d.Waits())
	}
	got, e := parts.Read(d, 1, 8)
	if want := append(append([]string{""}, l...), "", "", "", ""); e != api.OK || !slices.Equal(got, want) {
		t.Fatalf("Read is answered %q, %d", got, e)
	}
	for i := range 9 {
		d.Spoil(i, 7, "\x01")
		l, e := parts.Read(d, 1, 7)
		if in := i >= 1 && i < 8; in != (e == api.ErrSum) || !in && e != api.OK || in != (l == nil) {
			t.Errorf("the sector %d is spoilt; Read is answered %q, %d", i, l, e)
		}
		d.Spoil(i, 7, "\x01")
	}
}

// The first error is told, and what was written ahead of it waits.
func TestErrors(t *testing.T) {
	l := parts.Bodies(text(100), 5)
	for acts := range len(l) + 1 {
		d, _ := disk.New(9)
		d.Fuse(acts)
		if e := parts.Write(d, 0, l); e != api.ErrDown || d.Waits() != acts {
			t.Errorf("behind %d acts Write is answered %d, %d writes wait", acts, e, d.Waits())
		}
		if b, e := parts.Read(d, 0, 9); e != api.ErrDown || b != nil {
			t.Errorf("Read is answered %q, %d", b, e)
		}
	}
	d, _ := disk.New(9)
	if e := parts.Write(d, 7, l); e != api.ErrArg || d.Waits() != 2 {
		t.Errorf("Write is answered %d, %d writes wait", e, d.Waits())
	}
	if e := parts.Write(d, 0, []string{"short"}); e != api.ErrArg {
		t.Errorf("Write is answered %d", e)
	}
	if b, e := parts.Read(d, 5, 5); e != api.ErrArg || b != nil {
		t.Errorf("Read is answered %q, %d", b, e)
	}
}
