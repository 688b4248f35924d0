package mac_test

import (
	"crypto/hmac"
	"crypto/sha256"
	"go/ast"
	"go/parser"
	"go/token"
	"math/rand"
	"strings"
	"testing"

	"twinlock/api"
	"twinlock/mac"
	"twinlock/sha"
)

// block is how many bytes a key's block has.
const block = 64

// tagOf is a text's tag under a key, as others tell it.
func tagOf(key, text string) api.Hash {
	x := hmac.New(sha256.New, []byte(key))
	x.Write([]byte(text))
	return api.Hash(x.Sum(nil))
}

// byWords is a text's tag under a key, step by step as the chapter's words say it.
func byWords(key, text string) api.Hash {
	if len(key) > block {
		h := sha256.Sum256([]byte(key))
		key = string(h[:])
	}
	key += strings.Repeat("\x00", block-len(key))
	var in, out []byte
	for i := range len(key) {
		in = append(in, key[i]^0x36)
		out = append(out, key[i]^0x5c)
	}
	h := sha256.Sum256(append(in, text...))
	return sha256.Sum256(append(out, h[:]...))
}

// some is a text of n bytes, the same one for the same n and seed.
func some(n int, seed int64) string {
	b := make([]byte, n)
	rand.New(rand.NewSource(seed)).Read(b)
	return string(b)
}

// hashed is the bytes of a text's hash.
func hashed(s string) string {
	h := sha256.Sum256([]byte(s))
	return string(h[:])
}

// keyOf is a key of 32 such bytes.
func keyOf(s string) (k api.Key) {
	copy(k[:], s)
	return k
}

// holds asks a tag.
func holds(t *testing.T, key, text string) {
	t.Helper()
	want := tagOf(key, text)
	if h := mac.Tag(key, text); h != want || h != byWords(key, text) {
		t.Fatalf("a key of %d bytes, a text of %d: %x, not %x", len(key), len(text), h, want)
	}
}

// same asks whether two keys tell the same tags.
func same(t *testing.T, a, b string) {
	t.Helper()
	for _, text := range []string{"", "a", some(55, 1), some(64, 2), some(65, 3), some(300, 4)} {
		holds(t, a, text)
		if mac.Tag(a, text) != mac.Tag(b, text) {
			t.Fatalf("%q and %q, a text of %d bytes", a, b, len(text))
		}
	}
}

// sizes are lengths of keys and of texts: those about a hash's and a block's end, and where padding takes another block.
func sizes() []int {
	l := []int{0, 1, 2, 1000}
	for _, n := range []int{20, 32, 56, 64, 96, 120, 128, 192} {
		l = append(l, n-2, n-1, n, n+1)
	}
	return l
}

func TestP31Examples(t *testing.T) {
	for _, x := range []struct{ key, text, want string }{
		{strings.Repeat("\x0b", 20), "Hi There", "b0344c61d8db38535ca8afceaf0bf12b881dc200c9833da726e9376c2e32cff7"},
		{"Jefe", "what do ya want for nothing?", "5bdcc146bf60754e6a042426089575c75a003f089d2739839dec58b964ec3843"},
		{strings.Repeat("\xaa", 20), strings.Repeat("\xdd", 50), "773ea91e36800e46854db8ebd09181a72959098b3ef8c122d9635514ced565fe"},
		{strings.Repeat("\xaa", 131), "Test Using Larger Than Block-Size Key - Hash Key First", "60e431591ee0b67f0d8a26aacbf5b77f8e0bc6213728c5140546040f0ee37f54"},
		{"", "", "b613679a0814d9ec772f95d778c35fc5ff1697c493715653c6c712144292c5ad"},
	} {
		if d := sha.Digits(mac.Tag(x.key, x.text)); d != x.want {
			t.Errorf("%q, %q: %s, not %s", x.key, x.text, d, x.want)
		}
	}
}

// All lengths of keys and texts, of bytes that are the masks' own, too.
func TestP31Sizes(t *testing.T) {
	for _, n := range sizes() {
		for _, m := range sizes() {
			holds(t, some(n, 5), some(m, 6))
			for _, b := range []string{"\x00", "\x36", "\x5c", "\x80", "\xff"} {
				holds(t, strings.Repeat(b, n), some(m, 7))
				holds(t, some(n, 8), strings.Repeat(b, m))
			}
		}
	}
}

func TestP31KeySizes(t *testing.T) {
	for n := range 200 {
		holds(t, some(n, 9), "")
		holds(t, some(n, 9), "a text")
	}
}

// An empty key, an empty text, both.
func TestP31Empty(t *testing.T) {
	holds(t, "", "")
	holds(t, "", "a")
	holds(t, "a", "")
	holds(t, "", some(200, 10))
	holds(t, some(200, 11), "")
}

// A key of 64 bytes is taken as it is, one of 65 is hashed.
func TestP31BlockEnd(t *testing.T) {
	key := some(block+1, 12)
	for _, text := range []string{"", "a", some(100, 13)} {
		for _, n := range []int{block - 1, block, block + 1} {
			holds(t, key[:n], text)
		}
		if mac.Tag(key[:block], text) == mac.Tag(hashed(key[:block]), text) {
			t.Error("a key of 64 bytes is hashed")
		}
		if mac.Tag(key, text) == mac.Tag(key[:block], text) {
			t.Error("a key of 65 bytes is cut off")
		}
		if mac.Tag(key[:block], text) == mac.Tag(key[:block-1], text) {
			t.Error("a key's last byte is let go")
		}
	}
}

// Each bit of a key's block counts, and of a longer key.
func TestP31Bits(t *testing.T) {
	for _, n := range []int{block, block + 1, 2 * block} {
		for i := range 8 * n {
			b := make([]byte, n)
			b[i/8] = 1 << (i % 8)
			holds(t, string(b), "a text")
		}
	}
}

// Where the key ends and the text begins counts.
func TestP31Apart(t *testing.T) {
	s := some(100, 14)
	for cut := range len(s) + 1 {
		holds(t, s[:cut], s[cut:])
		holds(t, s[cut:], s[:cut])
	}
}

func TestP31Chance(t *testing.T) {
	for seed := range int64(2000) {
		r := rand.New(rand.NewSource(seed))
		holds(t, some(r.Intn(1+r.Intn(300)), r.Int63()), some(r.Intn(1+r.Intn(600)), r.Int63()))
	}
}

// Tags know nothing of one another.
func TestP31Again(t *testing.T) {
	first := mac.Tag("a", "b")
	mac.Tag(some(100, 15), some(100, 16))
	mac.Key(keyOf("c"), "d")
	if mac.Tag("a", "b") != first || first != tagOf("a", "b") {
		t.Error("a tag, asked again")
	}
}

func TestP31Long(t *testing.T) {
	s := some(1<<20, 17)
	holds(t, s, s)
	holds(t, "a", s)
	holds(t, s, "a")
}

func TestP31Key(t *testing.T) {
	keys := []api.Key{{}, keyOf("a"), keyOf(some(32, 18)), keyOf(strings.Repeat("\xff", 32)), keyOf(strings.Repeat("\x00", 31) + "z")}
	for _, k := range keys {
		for _, n := range sizes() {
			label := some(n, 19)
			want := api.Key(tagOf(string(k[:]), label))
			if have := mac.Key(k, label); have != want || have != api.Key(mac.Tag(string(k[:]), label)) {
				t.Errorf("%x by a label of %d bytes: %x, not %x", k, n, have, want)
			}
		}
	}
}

// All bytes of the key and of the label count.
func TestP31KeyBytes(t *testing.T) {
	seen := map[api.Key]int{}
	for i := range 32 {
		var k api.Key
		k[i] = 1
		if mac.Key(k, "label") != api.Key(tagOf(string(k[:]), "label")) {
			t.Errorf("byte %d of the key", i)
		}
		seen[mac.Key(k, "label")]++
		b := []byte(strings.Repeat("l", 32))
		b[i]++
		if mac.Key(k, string(b)) != api.Key(tagOf(string(k[:]), string(b))) {
			t.Errorf("byte %d of the label", i)
		}
		seen[mac.Key(k, string(b))]++
	}
	if len(seen) != 64 {
		t.Errorf("%d keys, not 64", len(seen))
	}
}

// A key of a key, and of that, as rings make them.
func TestP31KeyOfKey(t *testing.T) {
	k := keyOf(some(32, 20))
	want := string(k[:])
	for _, label := range []string{"", "a", "b", "", some(200, 21)} {
		k = mac.Key(k, label)
		h := tagOf(want, label)
		want = string(h[:])
		if string(k[:]) != want {
			t.Fatalf("by %q: %x, not %x", label, k, want)
		}
	}
}

func TestP32Same(t *testing.T) {
	for _, h := range []api.Hash{{}, tagOf("a", "b"), api.Hash(keyOf(strings.Repeat("\xff", 32)))} {
		same := h
		if !mac.Equal(h, h) || !mac.Equal(h, same) {
			t.Errorf("%x is itself", h)
		}
	}
}

// One bit, wherever it stands; and one byte by whatever it differs.
func TestP32OneByte(t *testing.T) {
	for _, h := range []api.Hash{{}, tagOf("a", "b"), api.Hash(keyOf(strings.Repeat("\xff", 32)))} {
		for i := range len(h) {
			for d := 1; d < 256; d++ {
				other := h
				other[i] ^= byte(d)
				if mac.Equal(h, other) || mac.Equal(other, h) {
					t.Fatalf("%x and %x, byte %d", h, other, i)
				}
			}
		}
	}
}

// Differences in two bytes make nothing of one another, nor do those in all of them.
func TestP32MoreBytes(t *testing.T) {
	h := tagOf("a", "b")
	for i := range len(h) {
		for j := range i {
			for _, d := range []byte{1, 16, 127, 128, 255} {
				xored, added := h, h
				xored[i] ^= d
				xored[j] ^= d
				added[i] += d
				added[j] -= d
				turned := h
				turned[i], turned[j] = turned[j], turned[i]
				if mac.Equal(h, xored) || mac.Equal(h, added) || mac.Equal(h, turned) != (h[i] == h[j]) {
					t.Fatalf("bytes %d and %d by %d", i, j, d)
				}
			}
		}
	}
	for d := 1; d < 256; d++ {
		all := h
		for i := range len(all) {
			all[i] ^= byte(d)
		}
		if mac.Equal(h, all) || mac.Equal(all, h) {
			t.Fatalf("all bytes by %d", d)
		}
	}
}

func TestP32Chance(t *testing.T) {
	r := rand.New(rand.NewSource(22))
	for range 5000 {
		var a, b api.Hash
		for i := range len(a) {
			a[i], b[i] = byte(r.Intn(2)), byte(r.Intn(2))
		}
		if r.Intn(2) == 0 {
			b = a
			b[r.Intn(len(b))] += byte(r.Intn(2))
		}
		if mac.Equal(a, b) != (a == b) {
			t.Fatalf("%x and %x", a, b)
		}
	}
}

// equalOf is Equal as it is written in mac.go.
func equalOf(t *testing.T) *ast.FuncDecl {
	t.Helper()
	file, err := parser.ParseFile(token.NewFileSet(), "mac.go", nil, 0)
	if err != nil {
		t.Fatal(err)
	}
	for _, d := range file.Decls {
		if f, is := d.(*ast.FuncDecl); is && f.Name.Name == "Equal" {
			return f
		}
	}
	t.Fatal("mac.go has no Equal")
	return nil
}

// No answer shows which bytes were looked at; so its text is asked that nothing there leaves the loop early or passes a byte over: one return, no branch, and no hashes compared whole.
func TestP32EachByte(t *testing.T) {
	returns, loops := 0, 0
	ast.Inspect(equalOf(t).Body, func(n ast.Node) bool {
		switch x := n.(type) {
		case *ast.ReturnStmt:
			returns++
		case *ast.RangeStmt, *ast.ForStmt:
			loops++
		case *ast.BranchStmt, *ast.IfStmt, *ast.SwitchStmt:
			t.Error("a branch")
		case *ast.BinaryExpr:
			if x.Op == token.LAND || x.Op == token.LOR {
				t.Errorf("%s looks at its right side just sometimes", x.Op)
			}
			for _, side := range []ast.Expr{x.X, x.Y} {
				if id, is := side.(*ast.Ident); is && (id.Name == "a" || id.Name == "b") {
					t.Errorf("%s compares whole hashes", x.Op)
				}
			}
		}
		return true
	})
	if returns != 1 || loops != 1 {
		t.Errorf("%d returns and %d loops, not one each", returns, loops)
	}
}

// Noughts behind a key, up to a block's end, change nothing; behind that the key is another one.
func TestP33Noughts(t *testing.T) {
	for n := range block + 1 {
		key := some(n, int64(n))
		for more := range block - n + 1 {
			same(t, key, key+strings.Repeat("\x00", more))
		}
		full := key + strings.Repeat("\x00", block-n)
		holds(t, full+"\x00", "a")
		if mac.Tag(full+"\x00", "a") == mac.Tag(key, "a") {
			t.Errorf("a key of %d bytes, and noughts beyond the block", n)
		}
	}
}

// Noughts ahead of a key make another one.
func TestP33NoughtsAhead(t *testing.T) {
	for n := 1; n < block; n++ {
		key := strings.Repeat("k", n)
		holds(t, "\x00"+key, "a")
		if mac.Tag("\x00"+key, "a") == mac.Tag(key, "a") {
			t.Errorf("a nought ahead of %d bytes", n)
		}
	}
}

// A longer key tells its hash's tags, and those of its hash with noughts behind.
func TestP33Hashed(t *testing.T) {
	for n := block + 1; n < 4*block; n++ {
		key := some(n, int64(n))
		same(t, key, hashed(key))
		same(t, key, hashed(key)+strings.Repeat("\x00", n%(block/2+1)))
	}
	long := some(100000, 23)
	same(t, long, hashed(long))
}

// A key and its hash tell others, up to a block's end.
func TestP33NotHashed(t *testing.T) {
	for n := range block + 1 {
		key := some(n, int64(n))
		if mac.Tag(key, "a") == mac.Tag(hashed(key), "a") {
			t.Errorf("a key of %d bytes is hashed", n)
		}
	}
}
