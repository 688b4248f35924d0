package bucket_test

import (
	"math"
	"math/rand"
	"slices"
	"strings"
	"testing"

	"twinlock/api"
	"twinlock/bucket"
)

// exampleBytes are the bytes of the chapter's example, and exampleBucket is where they belong.
const (
	exampleBytes  = "\x01\x05app/a\x011"
	exampleBucket = 3
)

// examplePages are pairs of one bucket each, by their bucket: none, one, as many as there may be, the shortest and the longest.
func examplePages() map[int][]api.Pair {
	long := inOne(2, maxKeys)
	for i := range long {
		long[i].Value = valued(32)
	}
	empty := inOne(12, 20)
	for i := range empty {
		empty[i].Value = ""
	}
	return map[int][]api.Pair{
		0:                   nil,
		1:                   inOne(1, 1),
		2:                   long,
		3:                   {pair("app/a", "1"), pair("app/ae", "\x00\x80\xff")},
		4:                   inOne(4, 2),
		5:                   inOne(5, 47),
		6:                   {pair("app/16", ""), pair("ops/k", "yz")},
		12:                  empty,
		bucketOf(longest()): {pair(longest(), valued(32))},
	}
}

// Of each number, whatever the bytes are: what is no bucket is ErrArg.
func TestP143Numbers(t *testing.T) {
	for _, i := range numbers() {
		if isBucket(i) {
			readsTo(t, i, "\x00", nil, api.OK)
		} else {
			unread(t, api.ErrArg, i, "\x00")
		}
		for _, s := range []string{"", "\x00", "\x01", "\x31", "\x80", "\x80\x00", "\x00\x00", exampleBytes, exampleBytes + "\x00", exampleBytes[:4], bytesOf(many(2)...), letters(huge)} {
			reads(t, i, s)
			if !isBucket(i) {
				unread(t, api.ErrArg, i, s)
			}
		}
		for j, l := range examplePages() {
			switch {
			case !isBucket(i):
				unread(t, api.ErrArg, i, bytesOf(l...))
			case i == j || len(l) == 0:
				readsTo(t, i, bytesOf(l...), l, api.OK)
			default:
				unread(t, api.ErrForm, i, bytesOf(l...))
			}
		}
	}
}

// Of each proper beginning of a page there is too little, of one with something behind it too much.
func TestP143Ends(t *testing.T) {
	for i, l := range examplePages() {
		s := bytesOf(l...)
		readsTo(t, i, s, l, api.OK)
		for n := range len(s) {
			unread(t, api.ErrShort, i, s[:n])
			// It is pack's fault, so it goes ahead of the bucket.
			unread(t, api.ErrShort, (i+1)%buckets, s[:n])
		}
		for c := range 256 {
			unread(t, api.ErrForm, i, s+string([]byte{byte(c)}))
		}
		for _, more := range []string{s, "\x00\x00", "\x03a/b\x00", letters(huge), strings.Repeat("\x00", huge), strings.Repeat("\xff", 11)} {
			unread(t, api.ErrForm, i, s+more)
		}
	}
	for i := range buckets {
		unread(t, api.ErrShort, i, "")
	}
}

// How many pairs, in bytes: from 0 to 48, whatever is behind it.
func TestP143Many(t *testing.T) {
	for i := range buckets {
		all := inOne(i, 64)
		for n := range maxKeys + 1 {
			readsTo(t, i, bytesOf(all[:n]...), all[:n], api.OK)
		}
		for n := maxKeys + 1; n <= 64; n++ {
			unread(t, api.ErrForm, i, bytesOf(all[:n]...))
		}
		one := bytesOf(all[0])[1:]
		for _, n := range []uint64{49, 50, 96, 127, 128, 255, 256, 256 + 1, 256 + 48, 1 << 16, 1<<32 + 1, 1 << 62, 1<<63 - 1, 1 << 63, math.MaxUint64} {
			for _, behind := range []string{"", "\x00", "\x80", one, one[:4], strings.Repeat(one, 49), bytesOf(all...)[1:]} {
				unread(t, api.ErrForm, i, number(n)+behind)
			}
		}
	}
	// Other than there are: of too few the next one is missing, of too many bytes are left.
	l := inOne(7, maxKeys+1)
	for n := range maxKeys + 1 {
		for k := range maxKeys + 2 {
			s := number(uint64(n)) + bytesOf(l[:k]...)[1:]
			switch {
			case k < n:
				unread(t, api.ErrShort, 7, s)
			case k > n:
				unread(t, api.ErrForm, 7, s)
			default:
				readsTo(t, 7, s, l[:n], api.OK)
			}
		}
	}
}

// wideNumbers are numbers as bytes that no int is, or that are written in another way than their own.
func wideNumbers() []string {
	nine, noughts := strings.Repeat("\xff", 9), strings.Repeat("\x80", 9)
	return []string{number(1 << 63), number(math.MaxUint64), nine + "\x02", nine + "\x7f", nine + "\xff\x00", noughts + "\x80", noughts + "\x02", noughts + "\x80\x01", strings.Repeat("\x81", 100), "\x80\x00", "\x81\x00", "\x85\x00", "\x81\x80\x00", "\xb0\x00", "\xb0\x80\x00", "\xff\x00", noughts + "\x00", noughts[1:] + "\x00", "\x81" + noughts[1:] + "\x00"}
}

// Where a number is wide, cut off or written otherwise, Read fails there, whatever is behind it: how many, a path's length, a value's.
func TestP143WideNumbers(t *testing.T) {
	ahead := []string{"", "\x01", "\x02", exampleBytes[:7], "\x02" + exampleBytes[1:], "\x02" + exampleBytes[1:] + "\x06app/ae", "\x30" + exampleBytes[1:]}
	behind := []string{"", "\x00", "\x01", "1", "app/a\x011", "\x05app/a\x011", exampleBytes, letters(50)}
	for _, i := range []int{exampleBucket, 0, 15} {
		for _, n := range wideNumbers() {
			for _, a := range ahead {
				for _, b := range behind {
					unread(t, api.ErrForm, i, a+n+b)
				}
			}
		}
		// Cut off: there are fewer than ten bytes, and no last one.
		for size := range 10 {
			for _, a := range ahead {
				unread(t, api.ErrShort, i, a+strings.Repeat("\xff", size))
				unread(t, api.ErrShort, i, a+strings.Repeat("\x80", size))
			}
		}
	}
	// A number of each size, written one byte, or some, longer than it must be.
	for n := range 64 {
		for extra := range 8 {
			long := string([]byte{byte(n) | 0x80}) + strings.Repeat("\x80", extra) + "\x00"
			for _, a := range ahead {
				unread(t, api.ErrForm, exampleBucket, a+long+letters(n))
				unread(t, api.ErrForm, exampleBucket, a+long+letters(n)+"\x00")
			}
		}
	}
}

// A path's length: at most 33, and as many bytes must be there.
func TestP143Paths(t *testing.T) {
	for _, ahead := range []string{"\x01", "\x02" + exampleBytes[1:], "\x30" + exampleBytes[1:]} {
		for _, n := range []uint64{34, 35, 48, 127, 128, 255, 256, 256 + 5, 1<<16 + 5, 1<<32 + 5, 1 << 62, 1<<63 - 1, 1 << 63, math.MaxUint64} {
			for _, behind := range []string{"", "app/a", "app/a\x011", letters(33), letters(int(n % (1 << 17)))} {
				unread(t, api.ErrForm, exampleBucket, ahead+number(n)+behind)
			}
		}
		for n := range maxPath + 1 {
			p := longest()[:n]
			for have := range n {
				unread(t, api.ErrShort, exampleBucket, ahead+number(uint64(n))+p[:have])
			}
			unread(t, api.ErrShort, exampleBucket, ahead+number(uint64(n))+p)
		}
	}
	// One of 34 bytes, in a page that is right but for it.
	for i := range buckets {
		unread(t, api.ErrForm, i, bytesOf(pair(longest()+"x", "")))
		unread(t, api.ErrForm, i, bytesOf(pair(letters(34), "1")))
	}
	for _, p := range goodPaths() {
		readsTo(t, bucketOf(p), bytesOf(pair(p, "")), []api.Pair{pair(p, "")}, api.OK)
	}
}

// A value's length: at most 32, and as many bytes must be there.
func TestP143Values(t *testing.T) {
	for _, ahead := range []string{exampleBytes[:7], "\x02" + exampleBytes[1:] + "\x06app/ae"} {
		for _, n := range []uint64{33, 34, 48, 127, 128, 255, 256, 256 + 1, 256 + 32, 1<<16 + 1, 1<<32 + 1, 1 << 62, 1<<63 - 1, 1 << 63, math.MaxUint64} {
			for _, behind := range []string{"", "1", letters(32), letters(int(n % (1 << 17)))} {
				unread(t, api.ErrForm, exampleBucket, ahead+number(n)+behind)
			}
		}
		for n := range maxValue + 1 {
			v := valued(n)
			for have := range n {
				unread(t, api.ErrShort, exampleBucket, ahead+number(uint64(n))+v[:have])
			}
			if e := reads(t, exampleBucket, ahead+text(v)); e != api.OK {
				t.Fatalf("a value of %d bytes: %d", n, e)
			}
			unread(t, api.ErrForm, exampleBucket, ahead+text(v)+"\x00")
		}
	}
}

// Pairs that may not be, or are of another bucket, are ErrForm when all is read: at each place of few and of many.
func TestP143Pairs(t *testing.T) {
	for _, n := range []int{1, 2, 3, 47, 48} {
		wrongLists(n, func(l []api.Pair) {
			s := bytesOf(l...)
			unread(t, api.ErrForm, 4, s)
			unread(t, api.ErrForm, 4, s+"\x00")
			reads(t, 4, s[:len(s)-1])
		})
	}
	for _, p := range noPaths() {
		for _, v := range []string{"", "1", valued(32)} {
			for _, i := range []int{bucketOf(p), 0, 15} {
				unread(t, api.ErrForm, i, bytesOf(pair(p, v)))
			}
		}
	}
	// Each two of some paths, side by side: those of one bucket are read in their row alone.
	read := 0
	l := append(goodPaths(), "app/ae", "app/ao", "app/3", "app/16")
	for _, p := range l {
		for _, q := range l {
			for _, i := range []int{bucketOf(p), bucketOf(q), 0} {
				if reads(t, i, bytesOf(pair(p, "1"), pair(q, ""))) == api.OK {
					read++
				}
			}
		}
	}
	if read < 20 {
		t.Errorf("%d were read", read)
	}
}

// fault is something that is wrong in the bytes of a pair, or of pairs, and the error, if it is the first one.
type fault struct {
	s string
	e api.Errno
}

// packFaults end a reading, whatever is behind them.
func packFaults() []fault {
	return []fault{
		{"\x22" + letters(34) + "\x00", api.ErrForm},
		{"\x05app/q\x21" + letters(33), api.ErrForm},
		{"\x80\x00", api.ErrForm},
		{"\x85\x00app/q\x011", api.ErrForm},
		{"\x05app/q\x81\x001", api.ErrForm},
		{strings.Repeat("\xff", 10), api.ErrForm},
	}
}

// shortFaults end the bytes, too.
func shortFaults() []string {
	return []string{"", "\x05", "\x05app/", "\x05app/q", "\x05app/q\x02", "\x05app/q\x021", "\x80", "\x05app/q\xff", "\x21" + letters(32)}
}

// lateFaults are pairs that are only wrong when all is read.
func lateFaults() []string {
	return []string{bytesOf(pair("app", "1"))[1:], "\x00\x00", bytesOf(pair("app/b", "1"))[1:], bytesOf(pair("app/a", ""))[1:], bytesOf(pair("a/a", ""))[1:], bytesOf(pair("App/x", valued(32)))[1:]}
}

// Of two faults the one ahead in the bytes is told, if it is pack's; one of pack's goes ahead of what is only wrong when all is read, wherever it stands.
func TestP143Order(t *testing.T) {
	right := exampleBytes[1:]
	for _, i := range []int{exampleBucket, 0, 9} {
		for _, f := range packFaults() {
			for _, late := range append(lateFaults(), right) {
				unread(t, f.e, i, "\x02"+f.s+late)
				unread(t, f.e, i, "\x02"+late+f.s)
				unread(t, f.e, i, "\x03"+late+late+f.s)
			}
			for _, cut := range shortFaults() {
				unread(t, f.e, i, "\x02"+f.s+cut)
				unread(t, f.e, i, "\x03"+right+f.s+cut)
			}
		}
		for _, cut := range shortFaults() {
			for _, late := range append(lateFaults(), right) {
				unread(t, api.ErrShort, i, "\x02"+late+cut)
				unread(t, api.ErrShort, i, "\x03"+late+late+cut)
			}
			// How many is asked first, and the bucket ahead of it.
			unread(t, api.ErrForm, i, "\x31"+cut)
			unread(t, api.ErrForm, i, "\xff\x00"+cut)
			unread(t, api.ErrArg, -1, "\x02"+cut)
			unread(t, api.ErrArg, 16, "\x31"+cut)
		}
		for _, late := range lateFaults() {
			unread(t, api.ErrForm, i, "\x02"+right+late)
			unread(t, api.ErrForm, i, "\x02"+right+late+"\x00")
			unread(t, api.ErrForm, i, "\x03"+right+late+late)
			unread(t, api.ErrForm, i, "\x31"+late)
			unread(t, api.ErrArg, -1, "\x01"+late)
			unread(t, api.ErrArg, 16, "\x01"+late)
		}
	}
	for _, f := range packFaults() {
		for _, g := range packFaults() {
			unread(t, f.e, exampleBucket, "\x02"+f.s+g.s)
			unread(t, api.ErrArg, 16, "\x02"+f.s+g.s)
		}
	}
}

// Each byte changed to each other one.
func TestP143Changed(t *testing.T) {
	count := map[api.Errno]int{}
	for i, l := range examplePages() {
		if len(l) > 20 {
			l = l[:5]
		}
		s := []byte(bytesOf(l...))
		for at, was := range s {
			for c := range 256 {
				s[at] = byte(c)
				count[reads(t, i, string(s))]++
			}
			s[at] = was
		}
	}
	for _, e := range []api.Errno{api.OK, api.ErrShort, api.ErrForm} {
		if count[e] < 1000 {
			t.Errorf("%d were answered %d", count[e], e)
		}
	}
}

// A byte left out, doubled, or put in, at each place.
func TestP143Moved(t *testing.T) {
	for i, l := range examplePages() {
		if len(l) > 20 {
			l = l[:5]
		}
		s := bytesOf(l...)
		for at := range s {
			reads(t, i, s[:at]+s[at+1:])
			for j := at + 1; j <= min(len(s), at+40); j++ {
				reads(t, i, s[:at]+s[j:])
				reads(t, i, s[:j]+s[at:])
			}
			for _, c := range "\x00\x01\x02\x03\x05\x20\x21\x22\x30\x31/a\x7f\u0080\u00ff" {
				reads(t, i, s[:at]+string([]byte{byte(c)})+s[at:])
			}
		}
	}
}

// Texts of many thousand bytes.
func TestP143Huge(t *testing.T) {
	for c := range 256 {
		for _, ahead := range []string{"", "\x01", "\x30"} {
			reads(t, c%buckets, ahead+strings.Repeat(string([]byte{byte(c)}), huge))
		}
	}
	unread(t, api.ErrForm, exampleBucket, strings.Repeat(exampleBytes, huge/len(exampleBytes)))
	unread(t, api.ErrForm, exampleBucket, "\x30"+strings.Repeat(exampleBytes[1:], huge))
	unread(t, api.ErrForm, exampleBucket, bytesOf(many(huge)...))
	unread(t, api.ErrForm, exampleBucket, bytesOf(pair("app/"+letters(huge), "1")))
	unread(t, api.ErrForm, exampleBucket, bytesOf(pair("app/a", valued(huge))))
}

// Bytes by chance, of few; changed pages by chance are among what P14.5 is asked of.
func TestP143Chance(t *testing.T) {
	r := rand.New(rand.NewSource(143))
	for range 30_000 {
		i := r.Intn(buckets)
		reads(t, i, some(r, r.Intn(20), "\x00\x01\x02\x03\x05app/\x80\xff"))
		reads(t, i, "\x02\x03"+some(r, r.Intn(20), "\x00\x01\x03a/"))
	}
}

// What Read tells is its own, whatever becomes of the bytes that were handed in.
func TestP144Read(t *testing.T) {
	want := []api.Pair{pair("app/a", "12"), pair("app/ae", valued(32))}
	s := []byte(bytesOf(want...))
	l, e := bucket.Read(3, textOn(s))
	clear(s)
	if e != api.OK || !slices.Equal(l, want) {
		t.Errorf("Read: %q, %d", l, e)
	}
	// Two answers have nothing together.
	x, _ := bucket.Read(3, bytesOf(want...))
	y, _ := bucket.Read(3, bytesOf(want...))
	spoil(x)
	if !slices.Equal(y, want) {
		t.Errorf("two answers have one memory: %q", y)
	}
}
