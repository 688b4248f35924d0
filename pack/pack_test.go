package pack_test

import (
	"bytes"
	"fmt"
	"math"
	"math/big"
	"math/rand"
	"slices"
	"strings"
	"testing"

	"twinlock/api"
	"twinlock/pack"
)

// item is something that is written by one call, and read by the same.
type item struct {
	kind  byte // n, i, t or b
	num   uint64
	whole int64
	text  string
	one   byte
}

func (x item) write(o *pack.Out) {
	switch x.kind {
	case 'n':
		o.Num(x.num)
	case 'i':
		o.Int(x.whole)
	case 't':
		o.Text(x.text)
	case 'b':
		o.Byte(x.one)
	}
}

// read reads an item of x's kind.
func (x item) read(in *pack.In) item {
	y := item{kind: x.kind}
	switch x.kind {
	case 'n':
		y.num = in.Num()
	case 'i':
		y.whole = in.Int()
	case 't':
		y.text = in.Text(math.MaxInt)
	case 'b':
		y.one = in.Byte()
	}
	return y
}

// sevens is a number's bytes, digit by digit as the chapter tells them, of numbers of any size.
func sevens(n *big.Int) string {
	var low big.Int
	n = new(big.Int).Set(n)
	var b []byte
	for {
		n.DivMod(n, big.NewInt(128), &low)
		if n.Sign() == 0 {
			return string(append(b, byte(low.Int64())))
		}
		b = append(b, byte(low.Int64())+128)
	}
}

// bytesOf is an item's bytes as the chapter tells them.
func bytesOf(x item) string {
	switch x.kind {
	case 'n':
		return sevens(new(big.Int).SetUint64(x.num))
	case 'i':
		n := big.NewInt(x.whole)
		if x.whole >= 0 {
			return sevens(n.Mul(n, big.NewInt(2)))
		}
		n.Neg(n).Sub(n, big.NewInt(1)).Mul(n, big.NewInt(2))
		return sevens(n.Add(n, big.NewInt(1)))
	case 't':
		return sevens(big.NewInt(int64(len(x.text)))) + x.text
	}
	return string([]byte{x.one})
}

// numberOf is what a number's reading at the beginning of s tells, as the chapter does.
func numberOf(s string) (n uint64, size int, e api.Errno) {
	end := -1
	for i := range len(s) {
		if s[i] < 128 {
			end = i + 1
			break
		}
	}
	if end < 0 && len(s) < 10 {
		return 0, 0, api.ErrShort
	}
	if end < 0 {
		return 0, 0, api.ErrForm
	}
	v := new(big.Int)
	for i := end - 1; i >= 0; i-- {
		v.Mul(v, big.NewInt(128)).Add(v, big.NewInt(int64(s[i]%128)))
	}
	if !v.IsUint64() || sevens(v) != s[:end] {
		return 0, 0, api.ErrForm
	}
	return v.Uint64(), end, api.OK
}

// edges are numbers around each power of two.
func edges() []uint64 {
	l := []uint64{0, math.MaxUint64}
	for i := range 64 {
		p := uint64(1) << i
		l = append(l, p-1, p, p+1)
	}
	return l
}

// texts are all of at most size bytes out of some, each also behind runs of great bytes.
func texts(alphabet string, size int) []string {
	l := []string{""}
	for from := 0; size > 0; size-- {
		to := len(l)
		for _, s := range l[from:to] {
			for i := range len(alphabet) {
				l = append(l, s+alphabet[i:i+1])
			}
		}
		from = to
	}
	short := len(l)
	for _, run := range []string{"\x80", "\xff"} {
		for n := 5; n <= 11; n++ {
			for _, s := range l[:short] {
				l = append(l, strings.Repeat(run, n)+s)
			}
		}
	}
	slices.Sort(l)
	return slices.Compact(l)
}

// alphabet is the bytes at which something changes.
const alphabet = "\x00\x01\x02\x7f\x80\x81\xff"

// chance tells a row of items, the same one for the same seed.
func chance(seed int64) []item {
	r := rand.New(rand.NewSource(seed))
	l := make([]item, r.Intn(8))
	for i := range l {
		l[i].kind = "nitb"[r.Intn(4)]
		switch l[i].kind {
		case 'n':
			l[i].num = r.Uint64() >> r.Intn(64)
		case 'i':
			l[i].whole = int64(r.Uint64()) >> r.Intn(64)
		case 't':
			b := make([]byte, r.Intn(5))
			if r.Intn(9) == 0 {
				b = make([]byte, 120+r.Intn(20))
			}
			r.Read(b)
			l[i].text = string(b)
		case 'b':
			l[i].one = byte(r.Intn(256))
		}
	}
	return l
}

// fault asks where a reader failed, and what it has left.
func fault(t *testing.T, in *pack.In, e api.Errno, at, left int) {
	t.Helper()
	if f, n := in.Fault(); f != e || n != at || in.Left() != left {
		t.Errorf("Fault %d %d, Left %d, not %d %d, %d", f, n, in.Left(), e, at, left)
	}
}

// stuck asks whether all fails that a reader is asked for, and nothing changes by that.
func stuck(t *testing.T, in *pack.In) {
	t.Helper()
	e, at := in.Fault()
	left := in.Left()
	if in.Num() != 0 || in.Most(math.MaxInt) != 0 || in.Int() != 0 || in.Text(math.MaxInt) != "" || in.Byte() != 0 || in.Most(-1) != 0 {
		t.Error("something was read behind a failure")
	}
	fault(t, in, e, at, left)
	if in.End() != e {
		t.Errorf("End %d, not %d", in.End(), e)
	}
}

func TestP11Empty(t *testing.T) {
	var o pack.Out
	if o.String() != "" || new(pack.Out).String() != "" {
		t.Error("an Out that was not written to")
	}
}

func TestP11Examples(t *testing.T) {
	for _, x := range []struct {
		item item
		want string
	}{
		{item{kind: 'n'}, "\x00"},
		{item{kind: 'n', num: 127}, "\x7f"},
		{item{kind: 'n', num: 128}, "\x80\x01"},
		{item{kind: 'n', num: 16384}, "\x80\x80\x01"},
		{item{kind: 'n', num: math.MaxUint64}, "\xff\xff\xff\xff\xff\xff\xff\xff\xff\x01"},
		{item{kind: 'i'}, "\x00"},
		{item{kind: 'i', whole: -1}, "\x01"},
		{item{kind: 'i', whole: 1}, "\x02"},
		{item{kind: 'i', whole: -65}, "\x81\x01"},
		{item{kind: 'i', whole: math.MinInt64}, "\xff\xff\xff\xff\xff\xff\xff\xff\xff\x01"},
		{item{kind: 'i', whole: math.MaxInt64}, "\xfe\xff\xff\xff\xff\xff\xff\xff\xff\x01"},
		{item{kind: 't'}, "\x00"},
		{item{kind: 't', text: "ab"}, "\x02ab"},
		{item{kind: 't', text: "\x00\xff"}, "\x02\x00\xff"},
		{item{kind: 'b'}, "\x00"},
		{item{kind: 'b', one: 200}, "\xc8"},
	} {
		var o pack.Out
		x.item.write(&o)
		if o.String() != x.want {
			t.Errorf("%v: %q, not %q", x.item, o.String(), x.want)
		}
	}
}

func TestP11Bytes(t *testing.T) {
	var o pack.Out
	want := ""
	put := func(x item) {
		x.write(&o)
		want += bytesOf(x)
	}
	for _, n := range edges() {
		put(item{kind: 'n', num: n})
		put(item{kind: 'i', whole: int64(n)})
		put(item{kind: 'i', whole: -int64(n)})
	}
	for i := range 256 {
		put(item{kind: 'b', one: byte(i)})
	}
	for _, n := range []int{0, 1, 127, 128, 129, 16383, 16384} {
		put(item{kind: 't', text: strings.Repeat("\xff", n)})
	}
	if o.String() != want || o.String() != want {
		t.Error("all kinds, one behind the other")
	}
}

func TestP11Nil(t *testing.T) {
	var o *pack.Out
	o.Num(300)
	o.Int(-3)
	o.Text("ab")
	o.Byte(1)
	if o.String() != "" {
		t.Errorf("a nil Out: %q", o.String())
	}
}

func TestP11Alone(t *testing.T) {
	for size := range 40 {
		var a pack.Out
		a.Text(strings.Repeat("x", size))
		head := a.String()
		b := a
		a.Byte('a')
		b.Byte('b')
		c := a
		a.Byte('A')
		c.Num(300)
		a = b
		a.Byte('B')
		for i, x := range []struct{ have, want string }{{a.String(), head + "bB"}, {b.String(), head + "b"}, {c.String(), head + "a\xac\x02"}} {
			if x.have != x.want {
				t.Errorf("copy %d of %d bytes: %q, not %q", i, size, x.have, x.want)
			}
		}
	}
}

func TestP12Examples(t *testing.T) {
	in := pack.Of("\x80\x01")
	if in.Num() != 128 || in.End() != api.OK {
		t.Error("128")
	}
	for s, e := range map[string]api.Errno{"\x81": api.ErrShort, "\x81\x00": api.ErrForm} {
		in := pack.Of(s)
		if in.Num() != 0 {
			t.Errorf("%q is no number", s)
		}
		fault(t, in, e, 0, len(s))
		stuck(t, in)
	}
	in = pack.Of("\x07\x02\x61")
	if in.Num() != 7 || in.Text(9) != "" {
		t.Error("a text that ends too early")
	}
	fault(t, in, api.ErrShort, 1, 2)
	stuck(t, in)
	in = pack.Of("\x07")
	if in.Most(6) != 0 || in.End() != api.ErrForm {
		t.Error("7 is above 6")
	}
	fault(t, in, api.ErrForm, 0, 1)
}

func TestP12Numbers(t *testing.T) {
	for _, s := range texts(alphabet, 4) {
		n, size, e := numberOf(s)
		in, whole := pack.Of(s), pack.Of(s)
		if have := in.Num(); have != n {
			t.Errorf("%q: Num %d, not %d", s, have, n)
		}
		want := int64(n / 2)
		if n%2 == 1 {
			want = -want - 1
		}
		if have := whole.Int(); have != want {
			t.Errorf("%q: Int %d, not %d", s, have, want)
		}
		for _, x := range []*pack.In{in, whole} {
			fault(t, x, e, 0, len(s)-size)
			if e != api.OK {
				stuck(t, x)
			}
		}
	}
}

func TestP12Most(t *testing.T) {
	mosts := []int{math.MinInt, -1, 0, 1, 2, 126, 127, 128, 129, 16384, math.MaxInt - 1, math.MaxInt}
	for _, s := range texts(alphabet, 3) {
		for _, most := range mosts {
			n, size, e := numberOf(s)
			if e == api.OK && (most < 0 || n > uint64(most)) {
				n, size, e = 0, 0, api.ErrForm
			}
			in := pack.Of(s)
			if have := in.Most(most); have != int(n) {
				t.Errorf("%q: Most(%d) %d, not %d", s, most, have, n)
			}
			fault(t, in, e, 0, len(s)-size)
			if e != api.OK {
				stuck(t, in)
			}
		}
	}
}

func TestP12Text(t *testing.T) {
	var all []string
	for _, s := range texts(alphabet, 3) {
		all = append(all, s, s+"abcdef")
	}
	for n := range 5 {
		head := sevens(big.NewInt(int64(126 + n)))
		for cut := range 3 {
			all = append(all, head+strings.Repeat("z", 125+n+cut))
		}
	}
	for _, s := range all {
		for _, most := range []int{math.MinInt, -1, 0, 1, 2, 127, 128, 129, math.MaxInt} {
			n, size, e := numberOf(s)
			text := ""
			if e == api.OK && (most < 0 || n > uint64(most)) {
				e = api.ErrForm
			}
			if e == api.OK && n > uint64(len(s)-size) {
				e = api.ErrShort
			}
			left := len(s)
			if e == api.OK {
				text = s[size : size+int(n)]
				left = len(s) - size - int(n)
			}
			in := pack.Of(s)
			if have := in.Text(most); have != text {
				t.Errorf("%q: Text(%d) %q, not %q", s, most, have, text)
			}
			fault(t, in, e, 0, left)
			if e != api.OK {
				stuck(t, in)
			}
		}
	}
}

func TestP12Byte(t *testing.T) {
	for i := range 256 {
		in := pack.Of(string([]byte{byte(i), 5}))
		if in.Byte() != byte(i) || in.Left() != 1 || in.Byte() != 5 || in.End() != api.OK {
			t.Errorf("byte %d", i)
		}
		if in.Byte() != 0 {
			t.Error("a byte where there is none")
		}
		fault(t, in, api.ErrShort, 2, 0)
		stuck(t, in)
	}
}

func TestP13FirstFailure(t *testing.T) {
	in := pack.Of("\x05\x81\x00")
	in.Byte()
	in.Num()
	fault(t, in, api.ErrForm, 1, 2)
	in.Text(0)
	in.Byte()
	fault(t, in, api.ErrForm, 1, 2)
	if in.End() != api.ErrForm {
		t.Error("End tells another failure")
	}
	in = pack.Of("\x05\x06")
	in.Text(9)
	fault(t, in, api.ErrShort, 0, 2)
	in.Most(-1)
	fault(t, in, api.ErrShort, 0, 2)
	if in.End() != api.ErrShort {
		t.Error("End tells another failure")
	}
}

func TestP13NoFailure(t *testing.T) {
	in := pack.Of("ab")
	for left := 2; left > 0; left-- {
		fault(t, in, api.OK, 0, left)
		if in.End() != api.ErrForm {
			t.Error("End with bytes that were not read")
		}
		// End is no reading: it fails, but the reader has not.
		fault(t, in, api.OK, 0, left)
		if in.Byte() == 0 {
			t.Error("Byte behind End")
		}
	}
	fault(t, in, api.OK, 0, 0)
	if in.End() != api.OK || pack.Of("").End() != api.OK {
		t.Error("End at the end")
	}
}

func TestP13None(t *testing.T) {
	var none *pack.In
	stuck(t, none)
	fault(t, none, api.OK, 0, 0)
	for _, in := range []*pack.In{{}, pack.Of("")} {
		fault(t, in, api.OK, 0, 0)
		if in.End() != api.OK || in.Text(3) != "" {
			t.Error("a reader of no bytes")
		}
		fault(t, in, api.ErrShort, 0, 0)
		stuck(t, in)
	}
	in := new(pack.In)
	in.Most(-1)
	fault(t, in, api.ErrShort, 0, 0)
}

func TestP13Alone(t *testing.T) {
	a := pack.Of("\x01\x02\x03")
	b := pack.Of("\x01\x02\x03")
	a.Byte()
	c := *a
	c.Text(1)
	fault(t, a, api.OK, 0, 2)
	fault(t, b, api.OK, 0, 3)
	fault(t, &c, api.ErrForm, 1, 2)
}

func TestP14ReadAgain(t *testing.T) {
	for seed := range int64(3000) {
		l := chance(seed)
		var o pack.Out
		want := ""
		for _, x := range l {
			x.write(&o)
			want += bytesOf(x)
		}
		if o.String() != want {
			t.Fatalf("%v: %q, not %q", l, o.String(), want)
		}
		in := pack.Of(o.String())
		for _, x := range l {
			if y := x.read(in); y != x {
				t.Fatalf("%v is read as %v", x, y)
			}
		}
		fault(t, in, api.OK, 0, 0)
		if in.End() != api.OK {
			t.Fatalf("%v: End %d", l, in.End())
		}
	}
}

func TestP14OneWay(t *testing.T) {
	for _, calls := range []string{"n", "i", "t", "nn", "ni", "tn", "bt", "nb", "tt"} {
		seen := map[string]string{}
		for _, s := range texts(alphabet, 4) {
			in := pack.Of(s)
			told := ""
			for i := range len(calls) {
				told += fmt.Sprintf("%#v ", item{kind: calls[i]}.read(in))
			}
			if in.End() != api.OK {
				continue
			}
			if other, is := seen[told]; is {
				t.Fatalf("%s: %q and %q are read the same", calls, s, other)
			}
			seen[told] = s
		}
		if len(seen) == 0 {
			t.Errorf("%s: nothing was read", calls)
		}
	}
}

func TestP15CutOff(t *testing.T) {
	for seed := range int64(600) {
		l := chance(seed)
		var o pack.Out
		ends := []int{}
		for _, x := range l {
			x.write(&o)
			ends = append(ends, len(o.String()))
		}
		for cut := range len(o.String()) {
			in := pack.Of(o.String()[:cut])
			begun := 0
			for i, x := range l {
				y := x.read(in)
				if ends[i] > cut {
					if y != (item{kind: x.kind}) {
						t.Fatalf("%v, cut off at %d: %v", l, cut, y)
					}
					break
				}
				if y != x {
					t.Fatalf("%v, cut off at %d: %v is read as %v", l, cut, x, y)
				}
				begun = ends[i]
			}
			fault(t, in, api.ErrShort, begun, cut-begun)
			stuck(t, in)
		}
	}
}

func TestP15Behind(t *testing.T) {
	for seed := range int64(600) {
		first, then := chance(seed), chance(seed+1e6)
		var a, b, both pack.Out
		for _, x := range first {
			x.write(&a)
			x.write(&both)
		}
		for _, x := range then {
			x.write(&b)
			x.write(&both)
		}
		if both.String() != a.String()+b.String() {
			t.Fatalf("%v behind %v: %q", then, first, both.String())
		}
		in := pack.Of(both.String())
		for _, x := range append(first, then...) {
			if y := x.read(in); y != x {
				t.Fatalf("%v is read as %v", x, y)
			}
		}
		if in.End() != api.OK {
			t.Fatalf("%v behind %v: End %d", then, first, in.End())
		}
	}
}

// Many calls take no more than their number's time: no call goes through all that was written.
func TestP15Many(t *testing.T) {
	const n = 1 << 20
	var o pack.Out
	for i := range n {
		o.Byte(byte(i))
	}
	s := o.String()
	in := pack.Of(s)
	if len(s) != n || !bytes.Equal([]byte(s[:256]), []byte(s[n-256:])) {
		t.Fatal("written")
	}
	for i := range n {
		if in.Byte() != byte(i) {
			t.Fatal("read")
		}
	}
	if in.End() != api.OK {
		t.Error("End")
	}
}
