package batch_test

import (
	"math"
	"math/rand"
	"strings"
	"testing"

	"twinlock/api"
	"twinlock/batch"
)

// exampleBytes are the bytes of the chapter's example.
const exampleBytes = "\x01\x02\x01\x01\x05app/a\x011"

func TestP123Examples(t *testing.T) {
	readsTo(t, exampleBytes, of(1, 2, put("app/a", "1")), api.OK)
	unread(t, api.ErrForm, exampleBytes+"\x00")
	unread(t, api.ErrForm, exampleBytes+"1")
	unread(t, api.ErrShort, "")
}

// batches are some that are right: without operations, with one, with as many as there may be, at all edges at once.
func batches() []api.Batch {
	o := put(longest(), valued(32))
	return []api.Batch{
		of(1, 1),
		of(300, 16384),
		of(1<<62, math.MaxInt),
		of(1, 2, put("app/a", "1")),
		of(5, 6, del("ops/b")),
		of(7, 8, put("a/x", "")),
		of(128, 1, usual()...),
		of(3, 1, del("a/x"), del("a/x"), put("a/y", "\x01\x02"), put("a/x", "")),
		of(1<<62, math.MaxInt, o, o, o, o),
		of(1<<62, math.MaxInt, del(longest()), del(longest()), del(longest()), del(longest())),
		of(1, 1, put("app/\xff\xfe", "\x80\xc3\x28"), del("a/\xc0\xaf")),
	}
}

func TestP123Whole(t *testing.T) {
	for _, b := range batches() {
		readsTo(t, bytesOf(b), b, api.OK)
	}
}

// Of each beginning of a batch's bytes there are too few; with one byte more, or many, there are too many.
func TestP123Ends(t *testing.T) {
	for _, b := range batches() {
		s := bytesOf(b)
		for n := range len(s) {
			unread(t, api.ErrShort, s[:n])
		}
		for c := range 256 {
			unread(t, api.ErrForm, s+string([]byte{byte(c)}))
		}
		for _, more := range []string{s, "\x00\x00", "\x01\x03a/b\x00", "\x02\x03a/b", letters(huge), strings.Repeat("\x00", huge), strings.Repeat("\xff", 11)} {
			unread(t, api.ErrForm, s+more)
		}
	}
}

// Each byte changed to each other one; and two side by side, of a shorter batch.
func TestP123Changed(t *testing.T) {
	for _, b := range batches() {
		s := []byte(bytesOf(b))
		for i, was := range s {
			for c := range 256 {
				s[i] = byte(c)
				reads(t, string(s))
			}
			s[i] = was
		}
	}
	s := []byte(bytesOf(of(1, 2, put("a/b", "1"), del("a/b"))))
	for i := range len(s) - 1 {
		was := [2]byte(s[i:])
		for c := range 1 << 16 {
			s[i], s[i+1] = byte(c), byte(c>>8)
			if e := errorOf(string(s)); e == api.OK || c%16 == 0 {
				reads(t, string(s))
			}
		}
		copy(s[i:], was[:])
	}
}

// errorOf is what Read tells beside a batch.
func errorOf(s string) api.Errno {
	_, e := batch.Read(s)
	return e
}

// A byte left out, doubled, or put in, at each place.
func TestP123Moved(t *testing.T) {
	for _, b := range batches() {
		s := bytesOf(b)
		for i := range s {
			reads(t, s[:i]+s[i+1:])
			for j := i + 1; j <= min(len(s), i+40); j++ {
				reads(t, s[:i]+s[j:])
				reads(t, s[:j]+s[i:])
			}
			for _, c := range "\x00\x01\x02\x03\x04\x05\x21\x22/a\x7f\u0080\u00ff" {
				reads(t, s[:i]+string([]byte{byte(c)})+s[i:])
			}
		}
	}
}

// wideNumbers are numbers as bytes that no int is, that are cut off, or written in another way than their own.
func wideNumbers() map[string]api.Errno {
	nine := strings.Repeat("\xff", 9)
	return map[string]api.Errno{
		number(1 << 63):                             api.ErrForm,
		number(1<<63 + 1):                           api.ErrForm,
		number(math.MaxUint64):                      api.ErrForm,
		nine + "\x02":                               api.ErrForm,
		nine + "\x7f":                               api.ErrForm,
		nine + "\xff\x00":                           api.ErrForm,
		strings.Repeat("\x80", 10):                  api.ErrForm,
		strings.Repeat("\x80", 9) + "\x02":          api.ErrForm,
		strings.Repeat("\x80", 10) + "\x01":         api.ErrForm,
		strings.Repeat("\x81", 100):                 api.ErrForm,
		"\x80\x00":                                  api.ErrForm,
		"\x81\x00":                                  api.ErrForm,
		"\x81\x80\x00":                              api.ErrForm,
		"\xff\x00":                                  api.ErrForm,
		strings.Repeat("\x80", 9) + "\x00":          api.ErrForm,
		"\x81" + strings.Repeat("\x80", 8) + "\x00": api.ErrForm,
	}
}

// Where a number is wide, cut off or written otherwise, Read fails there, whatever is behind it.
func TestP123WideNumbers(t *testing.T) {
	ahead := []string{"", number(1), numbers(1, 1, 1)[:2], numbers(1, 1, 1) + "\x01", numbers(1, 1, 1) + "\x02", numbers(1, 1, 1) + "\x01\x03a/b"}
	behind := []string{"", "\x01", "\x00", "\x01\x01\x00", "\x03a/b\x00", letters(50)}
	for n, e := range wideNumbers() {
		for _, a := range ahead {
			for _, b := range behind {
				unread(t, e, a+n+b)
				reads(t, a+n+b)
			}
		}
	}
	// Cut off: there are fewer than ten bytes, and no last one.
	for size := range 10 {
		for _, a := range ahead {
			unread(t, api.ErrShort, a+strings.Repeat("\xff", size))
			unread(t, api.ErrShort, a+strings.Repeat("\x80", size))
		}
	}
}

// An Index, read: from 1 to 2^62.
func TestP123Index(t *testing.T) {
	for n, want := range map[uint64]api.Errno{0: api.ErrArg, 1: api.OK, 2: api.OK, 127: api.OK, 128: api.OK, 1<<62 - 1: api.OK, 1 << 62: api.OK, 1<<62 + 1: api.ErrForm, 1<<63 - 1: api.ErrForm, 1 << 63: api.ErrForm, 1<<63 + 1: api.ErrForm, 1<<64 - 1: api.ErrForm} {
		for _, epoch := range []uint64{1, 2, 1<<63 - 1} {
			for k := range 5 {
				s := number(n) + bytesOf(of(1, int(epoch), many(k)...))[1:]
				var b api.Batch
				if want == api.OK {
					b = of(int(n), int(epoch), many(k)...)
				}
				readsTo(t, s, b, want)
				unread(t, api.ErrForm, s+"\x00")
			}
		}
	}
}

// An Epoch, read: from 1 to 2^63 - 1.
func TestP123Epoch(t *testing.T) {
	for n, want := range map[uint64]api.Errno{0: api.ErrArg, 1: api.OK, 2: api.OK, 127: api.OK, 128: api.OK, 1 << 62: api.OK, 1<<62 + 1: api.OK, 1<<63 - 1: api.OK, 1 << 63: api.ErrForm, 1<<63 + 1: api.ErrForm, 1<<64 - 1: api.ErrForm} {
		for _, index := range []uint64{1, 2, 1 << 62} {
			for k := range 5 {
				s := number(index) + number(n) + bytesOf(of(1, 1, many(k)...))[2:]
				var b api.Batch
				if want == api.OK {
					b = of(int(index), int(n), many(k)...)
				}
				readsTo(t, s, b, want)
				unread(t, api.ErrForm, s+"\x00")
			}
		}
	}
}

// How many operations, read: from 0 to 4, whatever is behind.
func TestP123Many(t *testing.T) {
	o := opBytes(put("a/b", "1"))
	for _, n := range []uint64{5, 6, 7, 127, 128, 255, 256, 256 + 1, 256 + 4, 1 << 16, 1<<32 + 1, 1 << 62, 1 << 63, 1<<63 + 1, 1<<64 - 1} {
		for _, behind := range []string{"", o, o + o + o + o, o + o + o + o + o, strings.Repeat(o, int(n%1000)), "\x03", "\x00"} {
			unread(t, api.ErrForm, numbers(1, 1, n)+behind)
			unread(t, api.ErrForm, numbers(0, 0, n)+behind)
		}
	}
	// Other than there are: of too few the next one is missing, of too many bytes are left.
	for n := range uint64(5) {
		for k := range 7 {
			s := numbers(1, 1, n) + strings.Repeat(o, k)
			switch {
			case k < int(n):
				unread(t, api.ErrShort, s)
			case k > int(n):
				unread(t, api.ErrForm, s)
			default:
				reads(t, s)
				if e := errorOf(s); e != api.OK {
					t.Errorf("%d operations: %d", n, e)
				}
			}
		}
	}
}

// What is out of its bounds ahead goes ahead: Index, Epoch, how many.
func TestP123NumbersOrder(t *testing.T) {
	unread(t, api.ErrForm, numbers(1<<62+1, 1, 0))
	unread(t, api.ErrForm, number(1<<62+1))
	unread(t, api.ErrForm, number(1<<62+1)+"\x80")
	unread(t, api.ErrForm, number(1)+number(1<<63))
	unread(t, api.ErrForm, number(1)+number(1<<63)+"\x80")
	unread(t, api.ErrForm, number(1)+number(1)+number(5))
	unread(t, api.ErrForm, number(0)+number(1<<63)+number(0))
	unread(t, api.ErrForm, numbers(0, 1, 5))
	unread(t, api.ErrForm, numbers(1, 0, 5))
	unread(t, api.ErrShort, number(0))
	unread(t, api.ErrShort, number(0)+number(0))
	unread(t, api.ErrArg, numbers(0, 0, 0))
	unread(t, api.ErrForm, numbers(0, 0, 0)+"\x00")
	unread(t, api.ErrForm, numbers(1<<62+1, 0, 5)+"\x03")
	unread(t, api.ErrForm, numbers(1, 1, 5)+"\x03")
	unread(t, api.ErrKind, numbers(0, 0, 1)+"\x03")
	unread(t, api.ErrShort, numbers(0, 0, 1))
}

// Each Kind, first, in the middle and last: another one than 1 and 2 is ErrKind at once, whatever is behind it, and ahead of all that Right asks for.
func TestP123Kinds(t *testing.T) {
	behind := []string{"", "\x03a/b", "\x03a/b\x00", "\x00", "\x80\x00", "\xff\xff\xff\xff\xff\xff\xff\xff\xff\xff", "\x22", letters(huge)}
	for k := range 256 {
		if k == 1 || k == 2 {
			continue
		}
		for n := 1; n <= 4; n++ {
			for i := range n {
				for _, b := range behind {
					s := string([]byte{byte(k)}) + b
					for _, o := range many(i) {
						s = opBytes(o) + s
					}
					unread(t, api.ErrKind, numbers(1, 1, uint64(n))+s)
					unread(t, api.ErrKind, numbers(0, 0, uint64(n))+s)
				}
			}
		}
	}
	for k := range 256 {
		s := numbers(1, 1, 1) + string([]byte{byte(k)})
		switch k {
		case 1:
			unread(t, api.ErrShort, s)
			unread(t, api.ErrShort, s+"\x03a/b")
			readsTo(t, s+"\x03a/b\x00", of(1, 1, put("a/b", "")), api.OK)
		case 2:
			unread(t, api.ErrShort, s)
			readsTo(t, s+"\x03a/b", of(1, 1, del("a/b")), api.OK)
			unread(t, api.ErrForm, s+"\x03a/b\x00")
		default:
			unread(t, api.ErrKind, s)
			unread(t, api.ErrKind, s+"\x03a/b")
			unread(t, api.ErrKind, s+"\x03a/b\x00")
		}
	}
	// None at all is ErrShort, not the kind 0.
	unread(t, api.ErrShort, numbers(1, 1, 1))
	unread(t, api.ErrShort, numbers(1, 1, 2)+opBytes(del("a/b")))
}

// A failure ahead of a wrong Kind is the answer; one behind it is not.
func TestP123KindsOrder(t *testing.T) {
	three := "\x03"
	unread(t, api.ErrForm, numbers(1, 1, 2)+"\x01"+number(34)+three)
	unread(t, api.ErrForm, numbers(1, 1, 2)+"\x01\x03a/b"+number(33)+three)
	unread(t, api.ErrForm, numbers(1, 1, 2)+"\x02\x80\x00"+three)
	unread(t, api.ErrShort, numbers(1, 1, 2)+"\x02\x05"+three)
	unread(t, api.ErrKind, numbers(1, 1, 2)+opBytes(del("app"))+three)
	unread(t, api.ErrKind, numbers(1, 1, 2)+opBytes(put("", ""))+three+"\x80\x00")
	unread(t, api.ErrKind, numbers(0, 1, 3)+opBytes(put("app", ""))+three)
	unread(t, api.ErrKind, numbers(1, 1, 2)+"\x00\x22")
}

// A path's length: at most 33, and as many bytes must be there.
func TestP123Paths(t *testing.T) {
	for _, kind := range []string{"\x01", "\x02"} {
		ahead := numbers(1, 1, 1) + kind
		for _, n := range []uint64{34, 35, 127, 128, 255, 256, 256 + 3, 1<<16 + 3, 1<<32 + 3, 1 << 62, 1 << 63, 1<<64 - 1} {
			unread(t, api.ErrForm, ahead+number(n))
			unread(t, api.ErrForm, ahead+number(n)+"a/b")
			unread(t, api.ErrForm, ahead+number(n)+"a/b\x00")
			unread(t, api.ErrForm, ahead+number(n)+letters(int(n%(1<<17))))
		}
		for n := range 34 {
			p := letters(8) + "/" + keyed(24)
			for have := range n {
				unread(t, api.ErrShort, ahead+number(uint64(n))+p[:have])
			}
		}
	}
	// What is no path is ErrKey, when all is read.
	for _, p := range noPaths() {
		if len(p) > 33 {
			unread(t, api.ErrForm, bytesOf(of(1, 1, put(p, "1"))))
			unread(t, api.ErrForm, bytesOf(of(1, 1, del(p))))
			continue
		}
		for _, o := range []api.Op{put(p, ""), put(p, "1"), put(p, valued(32)), del(p)} {
			inEach(o, func(ops []api.Op) {
				s := bytesOf(of(1, 1, ops...))
				unread(t, api.ErrKey, s)
				unread(t, api.ErrForm, s+"\x00")
				unread(t, api.ErrArg, bytesOf(of(0, 1, ops...)))
				unread(t, api.ErrArg, bytesOf(of(1, 0, ops...)))
				if o.Kind == 1 {
					unread(t, api.ErrShort, bytesOf(of(1, 1, o))[:len(bytesOf(of(1, 1, o)))-1])
				}
			})
		}
	}
	for _, p := range goodPaths() {
		for _, o := range []api.Op{put(p, ""), put(p, "1"), put(p, valued(32)), del(p)} {
			inEach(o, func(ops []api.Op) { readsTo(t, bytesOf(of(1, 1, ops...)), of(1, 1, ops...), api.OK) })
		}
	}
}

// A value's length: at most 32, and as many bytes must be there.
func TestP123Values(t *testing.T) {
	ahead := numbers(1, 1, 1) + "\x01\x03a/b"
	for _, n := range []uint64{33, 34, 127, 128, 255, 256, 256 + 1, 256 + 32, 1<<16 + 1, 1<<32 + 1, 1 << 62, 1 << 63, 1<<64 - 1} {
		unread(t, api.ErrForm, ahead+number(n))
		unread(t, api.ErrForm, ahead+number(n)+"1")
		unread(t, api.ErrForm, ahead+number(n)+letters(int(n%(1<<17))))
	}
	for n := range 33 {
		v := valued(n)
		readsTo(t, ahead+number(uint64(n))+v, of(1, 1, put("a/b", v)), api.OK)
		for have := range n {
			unread(t, api.ErrShort, ahead+number(uint64(n))+v[:have])
		}
		unread(t, api.ErrForm, ahead+number(uint64(n))+v+"\x01")
	}
	for _, v := range values() {
		s := ahead + text(v)
		if len(v) > 32 {
			unread(t, api.ErrForm, s)
			continue
		}
		readsTo(t, s, of(1, 1, put("a/b", v)), api.OK)
		// A Delete has no value: what stands there is read as the next one, or left.
		unread(t, api.ErrForm, numbers(1, 1, 1)+"\x02\x03a/b"+text(v))
		reads(t, numbers(1, 1, 2)+"\x02\x03a/b"+text(v))
	}
}

// Of several faults of what is right by pack Right's first one is told.
func TestP123RightsOrder(t *testing.T) {
	unread(t, api.ErrKey, bytesOf(of(1, 1, del("app"), put("", ""))))
	unread(t, api.ErrKey, bytesOf(of(1, 1, put("app/a", "1"), put("app", valued(32)))))
	unread(t, api.ErrArg, bytesOf(of(0, 1, del("app"))))
	unread(t, api.ErrArg, bytesOf(of(1, 0, put("", ""))))
	unread(t, api.ErrShort, bytesOf(of(0, 1, put("app", "1")))[:8])
}

// Texts that are not UTF-8 are read byte by byte.
func TestP123NoUTF8(t *testing.T) {
	for _, x := range []string{"\xff", "\x80", "\xc3", "\xc3\x28", "\xed\xa0\x80", "\xf8\x88\x80\x80\x80", "\xc0\xaf", "a\xffb"} {
		b := of(1, 1, put("app/"+x, x), del("app/"+x))
		readsTo(t, bytesOf(b), b, api.OK)
		unread(t, api.ErrKey, bytesOf(of(1, 1, del(x+"/x"))))
		unread(t, api.ErrKey, bytesOf(of(1, 1, put(x, ""))))
		reads(t, x)
	}
}

// Texts of many thousand bytes.
func TestP123Huge(t *testing.T) {
	for c := range 256 {
		reads(t, strings.Repeat(string([]byte{byte(c)}), huge))
		reads(t, numbers(1, 1, 4)+strings.Repeat(string([]byte{byte(c)}), huge))
	}
	unread(t, api.ErrForm, strings.Repeat(exampleBytes, huge/len(exampleBytes)))
	unread(t, api.ErrForm, numbers(1, 1, 4)+strings.Repeat(opBytes(put("a/b", "1")), huge))
	unread(t, api.ErrForm, numbers(1, 1, huge)+strings.Repeat(opBytes(put("a/b", "1")), huge))
	unread(t, api.ErrForm, bytesOf(of(1, 1, put("a/"+letters(huge), "1"))))
	unread(t, api.ErrForm, bytesOf(of(1, 1, put("a/b", valued(huge)))))
}

// Bytes by chance: of few, of all, and of batches with some bytes changed.
func TestP123Chance(t *testing.T) {
	r := rand.New(rand.NewSource(123))
	for range 100_000 {
		reads(t, some(r, r.Intn(20), "\x00\x01\x02\x03\x04ab/\x80\xff"))
		reads(t, "\x01\x01"+some(r, r.Intn(30), "\x01\x02\x03a/"))
		s := []byte(bytesOf(chanceBatch(r)))
		for range r.Intn(4) {
			s[r.Intn(len(s))] = byte(r.Intn(256))
		}
		reads(t, string(s[:len(s)-r.Intn(2)*r.Intn(len(s))]))
	}
}

// What Read tells is its own, whatever becomes of the bytes that were handed in.
func TestP125Read(t *testing.T) {
	want := of(1, 2, put("app/a", "12"), del("ops/b"), put("a/x", valued(32)))
	s := []byte(bytesOf(want))
	b, e := batch.Read(textOn(s))
	clear(s)
	if e != api.OK || !sameOf(b, want) {
		t.Errorf("%q, %d", show(b), e)
	}
	// Two answers have nothing together.
	x, _ := batch.Read(bytesOf(want))
	y, _ := batch.Read(bytesOf(want))
	clear(x.Ops[:cap(x.Ops)])
	if !sameOf(y, want) {
		t.Errorf("%q", show(y))
	}
}
