package aes_test

import (
	caes "crypto/aes"
	"crypto/cipher"
	"encoding/binary"
	"encoding/hex"
	"math/rand"
	"strings"
	"testing"

	"twinlock/aes"
	"twinlock/api"
)

// block is how many bytes a block has.
const block = 16

// cipherOf is a key's cipher, as others make it.
func cipherOf(t *testing.T, key api.Key) cipher.Block {
	t.Helper()
	c, err := caes.NewCipher(key[:])
	if err != nil {
		t.Fatal(err)
	}
	return c
}

// blockOf is a block, enciphered as others do.
func blockOf(t *testing.T, key api.Key, in [16]byte) (out [16]byte) {
	t.Helper()
	cipherOf(t, key).Encrypt(out[:], in[:])
	return out
}

// counted is a nonce and a count behind it.
func counted(nonce [12]byte, n uint32) (b [16]byte) {
	copy(b[:], nonce[:])
	binary.BigEndian.PutUint32(b[12:], n)
	return b
}

// streamOf is a text's stream, as others tell it.
func streamOf(t *testing.T, key api.Key, nonce [12]byte, text string) string {
	t.Helper()
	first := counted(nonce, 0)
	b := []byte(text)
	cipher.NewCTR(cipherOf(t, key), first[:]).XORKeyStream(b, b)
	return string(b)
}

// reading is a reading of the chapter's words, step by step; what is set in it is read wrongly.
type reading struct {
	noFour, fourIsEight, noPower, noTurn, lastMixes, turnedBack, noFirst bool
}

// times multiplies two bytes.
func times(a, b byte) (p byte) {
	for ; b != 0; b >>= 1 {
		if b&1 != 0 {
			p ^= a
		}
		high := a&0x80 != 0
		a <<= 1
		if high {
			a ^= 0x1b
		}
	}
	return p
}

// makeBox is S of each byte, its mirror sought among all bytes.
func makeBox() (all [256]byte) {
	for b := range 256 {
		m := byte(0)
		for x := range 256 {
			if times(byte(b), byte(x)) == 1 {
				m = byte(x)
			}
		}
		all[b] = 0x63
		for n := range 5 {
			all[b] ^= m<<n | m>>(8-n)
		}
	}
	return all
}

// box is S.
var box = makeBox()

// schedule is a key's schedule.
func (r reading) schedule(key api.Key) (w [60][4]byte) {
	for i := range 60 {
		if i < 8 {
			w[i] = [4]byte(key[4*i:])
			continue
		}
		t := w[i-1]
		if i%8 == 0 && !r.noTurn {
			t = [4]byte{t[1], t[2], t[3], t[0]}
		}
		if i%8 == 0 || i%8 == 4 && !r.noFour {
			t = [4]byte{box[t[0]], box[t[1]], box[t[2]], box[t[3]]}
		}
		if i%8 == 0 && !r.noPower || i%8 == 4 && r.fourIsEight {
			t[0] ^= 1 << (i/8 - 1)
		}
		for n := range 4 {
			w[i][n] = w[i-8][n] ^ t[n]
		}
	}
	return w
}

// mixed is a block, its columns mixed.
func mixed(b [16]byte) (to [16]byte) {
	for i := range 4 {
		for n := range 4 {
			at := func(k int) byte { return b[4*i+(n+k)%4] }
			to[4*i+n] = times(2, at(0)) ^ times(3, at(1)) ^ at(2) ^ at(3)
		}
	}
	return to
}

// block is a block, enciphered.
func (r reading) block(key api.Key, b [16]byte) [16]byte {
	w := r.schedule(key)
	xor := func(round int) {
		for i := range b {
			b[i] ^= w[4*round+i/4][i%4]
		}
	}
	if !r.noFirst {
		xor(0)
	}
	for round := 1; round <= 14; round++ {
		var to [16]byte
		for i := range b {
			back := 4 * (i % 4)
			if r.turnedBack {
				back = -back
			}
			to[(i-back+16)%16] = box[b[i]]
		}
		b = to
		if round < 14 || r.lastMixes {
			b = mixed(b)
		}
		xor(round)
	}
	return b
}

// some is a text of n bytes, the same one for the same n and seed.
func some(n int, seed int64) string {
	b := make([]byte, n)
	rand.New(rand.NewSource(seed)).Read(b)
	return string(b)
}

// keyOf, nonceOf and inOf are a key, a nonce and a block of such a text's bytes, and noughts behind them.
func keyOf(s string) (k api.Key) {
	copy(k[:], s)
	return k
}

func nonceOf(s string) (n [12]byte) {
	copy(n[:], s)
	return n
}

func inOf(s string) (b [16]byte) {
	copy(b[:], s)
	return b
}

// unhex is the text of such digits.
func unhex(t *testing.T, digits string) string {
	t.Helper()
	b, err := hex.DecodeString(digits)
	if err != nil {
		t.Fatal(err)
	}
	return string(b)
}

// holdsBlock asks a block.
func holdsBlock(t *testing.T, key api.Key, in [16]byte) {
	t.Helper()
	want := blockOf(t, key, in)
	if b := aes.Block(key, in); b != want || b != (reading{}).block(key, in) {
		t.Fatalf("%x under %x: %x, not %x", in, key, b, want)
	}
}

// holdsStream asks a text's stream.
func holdsStream(t *testing.T, key api.Key, nonce [12]byte, text string) {
	t.Helper()
	if s := aes.Stream(key, nonce, text); s != streamOf(t, key, nonce, text) {
		t.Fatalf("%d bytes, nonce %x, under %x", len(text), nonce, key)
	}
}

// keys are keys of all kinds.
func keys() []api.Key {
	l := []api.Key{{}, keyOf("a"), keyOf(strings.Repeat("\xff", 32)), keyOf(strings.Repeat("\x00", 31) + "z"), keyOf(strings.Repeat("\x63", 32)), keyOf(strings.Repeat("\x52", 32))}
	for seed := range int64(10) {
		l = append(l, keyOf(some(32, seed)))
	}
	return l
}

// blocks are blocks of all kinds.
func blocks() [][16]byte {
	l := [][16]byte{{}, inOf("a"), inOf(strings.Repeat("\xff", 16)), inOf(strings.Repeat("\x00", 15) + "z"), inOf(strings.Repeat("\x63", 16)), inOf(strings.Repeat("\x80", 16))}
	for seed := range int64(10) {
		l = append(l, inOf(some(16, 100+seed)))
	}
	return l
}

// sizes are lengths about a block's end, for some blocks.
func sizes() []int {
	l := []int{0, 1, 2, 7, 8}
	for n := block; n <= 6*block; n += block {
		l = append(l, n-2, n-1, n, n+1, n+2)
	}
	return append(l, 255, 256, 257, 1000)
}

func TestP41Examples(t *testing.T) {
	const counting = "000102030405060708090a0b0c0d0e0f101112131415161718191a1b1c1d1e1f"
	const other = "603deb1015ca71be2b73aef0857d77811f352c073b6108d72d9810a30914dff4"
	for _, x := range []struct{ key, in, want string }{
		{counting, "00112233445566778899aabbccddeeff", "8ea2b7ca516745bfeafc49904b496089"},
		{other, "6bc1bee22e409f96e93d7e117393172a", "f3eed1bdb5d2a03c064b5a7e3db181f8"},
		{other, "ae2d8a571e03ac9c9eb76fac45af8e51", "591ccb10d410ed26dc5ba74a31362870"},
		{other, "30c81c46a35ce411e5fbc1191a0a52ef", "b6ed21b99ca6f4f9f153e7b1beafed1d"},
		{other, "f69f2445df4f9b17ad2b417be66c3710", "23304b7a39f9f3ff067d8d8f9e24ecc7"},
		{other, "f0f1f2f3f4f5f6f7f8f9fafbfcfdfeff", "0bdf7df1591716335e9a8b15c860c502"},
		{strings.Repeat("00", 32), strings.Repeat("00", 16), "dc95c078a2408989ad48a21492842087"},
	} {
		key, in := keyOf(unhex(t, x.key)), inOf(unhex(t, x.in))
		if b := aes.Block(key, in); hex.EncodeToString(b[:]) != x.want {
			t.Errorf("%s under %s: %x, not %s", x.in, x.key, b, x.want)
		}
		holdsBlock(t, key, in)
	}
}

func TestP41Kinds(t *testing.T) {
	for _, key := range keys() {
		for _, in := range blocks() {
			holdsBlock(t, key, in)
		}
	}
}

// Each bit of the key counts, and of the block.
func TestP41Bits(t *testing.T) {
	seen := map[[16]byte]bool{}
	for i := range 256 {
		var key api.Key
		key[i/8] = 1 << (i % 8)
		holdsBlock(t, key, [16]byte{})
		seen[aes.Block(key, [16]byte{})] = true
	}
	for i := range 128 {
		var in [16]byte
		in[i/8] = 1 << (i % 8)
		holdsBlock(t, api.Key{}, in)
		seen[aes.Block(api.Key{}, in)] = true
	}
	if len(seen) != 256+128 {
		t.Errorf("%d answers, not %d", len(seen), 256+128)
	}
}

// Each byte, wherever it stands in a block, and in a key.
func TestP41Bytes(t *testing.T) {
	for v := range 256 {
		for i := range block {
			var in [16]byte
			in[i] = byte(v)
			if b := aes.Block(api.Key{}, in); b != blockOf(t, api.Key{}, in) {
				t.Fatalf("%x: %x", in, b)
			}
		}
		for i := range 32 {
			var key api.Key
			key[i] = byte(v)
			if b := aes.Block(key, [16]byte{}); b != blockOf(t, key, [16]byte{}) {
				t.Fatalf("%x: %x", key, b)
			}
		}
	}
}

func TestP41Chance(t *testing.T) {
	for seed := range int64(2000) {
		holdsBlock(t, keyOf(some(32, seed)), inOf(some(16, -seed)))
	}
}

// Each step of the chapter's counts: who leaves it, or makes it otherwise, tells another block, under whatever key.
func TestP41Steps(t *testing.T) {
	for name, r := range map[string]reading{
		"no S at words that are 4 above a multiple of 8": {noFour: true},
		"these words as those at a multiple of 8":        {fourIsEight: true},
		"no powers of 2":                      {noPower: true},
		"no turn of words at a multiple of 8": {noTurn: true},
		"the last round mixes columns":        {lastMixes: true},
		"rows turned to the right":            {turnedBack: true},
		"the first four words left out":       {noFirst: true},
	} {
		for seed := range int64(20) {
			key, in := keyOf(some(32, seed)), inOf(some(16, 200+seed))
			holdsBlock(t, key, in)
			if aes.Block(key, in) == r.block(key, in) {
				t.Errorf("%s: %x under %x", name, in, key)
			}
		}
	}
}

// Blocks know nothing of one another, nor do keys.
func TestP41Again(t *testing.T) {
	for _, key := range keys() {
		first := aes.Block(key, inOf("a"))
		aes.Block(keyOf("other"), inOf("b"))
		aes.Stream(key, nonceOf("n"), some(100, 1))
		if aes.Block(key, inOf("a")) != first {
			t.Fatal("a block, asked again")
		}
	}
}

// The stream of noughts is the blocks of the nonce and the count.
func TestP42Examples(t *testing.T) {
	if s := aes.Stream(api.Key{}, [12]byte{}, ""); s != "" {
		t.Errorf("the empty text: %q", s)
	}
	const want = "dc95c078a2408989ad48a21492842087530f8afbc74536b9a963b4f1c4cb738bcea7403d4d606b6e074ec5d3baf39d18"
	if s := aes.Stream(api.Key{}, [12]byte{}, strings.Repeat("\x00", 48)); s != unhex(t, want) {
		t.Errorf("three blocks of noughts: %x", s)
	}
}

func TestP42Empty(t *testing.T) {
	for _, key := range keys() {
		for _, nonce := range [][12]byte{{}, nonceOf("n"), nonceOf(some(12, 2))} {
			if s := aes.Stream(key, nonce, ""); s != "" {
				t.Errorf("%q", s)
			}
		}
	}
}

// Texts of 15, 16 and 17 bytes, and of all lengths about a block's end.
func TestP42Sizes(t *testing.T) {
	for _, key := range keys() {
		nonce := nonceOf(some(12, int64(key[0])))
		for _, n := range sizes() {
			for _, text := range []string{some(n, 3), strings.Repeat("\x00", n), strings.Repeat("\xff", n)} {
				holdsStream(t, key, nonce, text)
				if s := aes.Stream(key, nonce, text); len(s) != n {
					t.Fatalf("%d bytes told for %d", len(s), n)
				}
			}
		}
	}
	for n := range 300 {
		holdsStream(t, keyOf("key"), nonceOf("nonce"), some(n, int64(n)))
	}
}

// The bytes are those of Block, block by block, each one's xored.
func TestP42Blocks(t *testing.T) {
	key, nonce, text := keyOf(some(32, 4)), nonceOf(some(12, 5)), some(20*block+5, 6)
	s := aes.Stream(key, nonce, text)
	for i := range len(text) {
		b := aes.Block(key, counted(nonce, uint32(i/block)))
		if s[i] != text[i]^b[i%block] {
			t.Fatalf("byte %d", i)
		}
	}
}

// Each bit of the nonce counts, and of the key.
func TestP42Bits(t *testing.T) {
	text := some(40, 7)
	seen := map[string]bool{}
	for i := range 96 {
		var nonce [12]byte
		nonce[i/8] = 1 << (i % 8)
		holdsStream(t, api.Key{}, nonce, text)
		seen[aes.Stream(api.Key{}, nonce, text)] = true
	}
	for i := range 256 {
		var key api.Key
		key[i/8] = 1 << (i % 8)
		holdsStream(t, key, [12]byte{}, text)
		seen[aes.Stream(key, [12]byte{}, text)] = true
	}
	if len(seen) != 96+256 {
		t.Errorf("%d answers, not %d", len(seen), 96+256)
	}
}

// A bit of the text is that bit of the answer, and nothing else.
func TestP42TextBits(t *testing.T) {
	key, nonce, text := keyOf("key"), nonceOf("nonce"), some(35, 8)
	s := aes.Stream(key, nonce, text)
	for i := range 8 * len(text) {
		b, want := []byte(text), []byte(s)
		b[i/8] ^= 1 << (i % 8)
		want[i/8] ^= 1 << (i % 8)
		if aes.Stream(key, nonce, string(b)) != string(want) {
			t.Fatalf("bit %d", i)
		}
	}
}

// holdsCount asks the blocks about the count n of a text that goes on behind them.
func holdsCount(t *testing.T, n int) {
	t.Helper()
	for _, nonce := range [][12]byte{{}, nonceOf(strings.Repeat("\xff", 12)), nonceOf(some(12, 9))} {
		key := keyOf(some(32, 10))
		text := strings.Repeat("\x00", (n+2)*block+3)
		s := aes.Stream(key, nonce, text)
		for i := max(n-3, 0); i < n+2; i++ {
			b := aes.Block(key, counted(nonce, uint32(i)))
			if s[i*block:(i+1)*block] != string(b[:]) {
				t.Errorf("the block %d, nonce %x", i, nonce)
			}
		}
		if s != streamOf(t, key, nonce, text) {
			t.Errorf("%d bytes, nonce %x", len(text), nonce)
		}
	}
}

// The count's highest byte comes first: beyond 256 blocks the one ahead of the last rises, beyond 65536 the one ahead of that; the nonce never does.
func TestP42Count(t *testing.T) {
	for _, n := range []int{1, 255, 256, 257, 300, 511, 512, 1 << 16} {
		holdsCount(t, n)
	}
}

// Beyond 2^24 blocks the count's first byte rises.
func TestP42Long(t *testing.T) {
	if testing.Short() {
		t.Skip("many bytes")
	}
	key, nonce, text := keyOf(some(32, 11)), nonceOf(some(12, 12)), strings.Repeat("twinlock", 1<<25+3)
	if aes.Stream(key, nonce, text) != streamOf(t, key, nonce, text) {
		t.Errorf("%d bytes", len(text))
	}
}

// Bytes of all kinds, that are no letters of any alphabet, too.
func TestP42OddBytes(t *testing.T) {
	var all []byte
	for i := range 256 {
		all = append(all, byte(i))
	}
	for _, text := range []string{string(all), "\x00", "\xff\xfe\x80", "\xc3", "\xed\xa0\x80", "\u20ac\n"} {
		holdsStream(t, keyOf(string(all)), nonceOf(string(all[200:])), text)
	}
}

func TestP42Chance(t *testing.T) {
	for seed := range int64(2000) {
		r := rand.New(rand.NewSource(seed))
		holdsStream(t, keyOf(some(32, r.Int63())), nonceOf(some(12, r.Int63())), some(r.Intn(1+r.Intn(600)), r.Int63()))
	}
}

// Streams know nothing of one another.
func TestP42Again(t *testing.T) {
	key, nonce, text := keyOf("key"), nonceOf("nonce"), some(100, 13)
	first := aes.Stream(key, nonce, text)
	aes.Stream(key, nonceOf("other"), some(50, 14))
	aes.Stream(keyOf("other"), nonce, text)
	if aes.Stream(key, nonce, text) != first {
		t.Error("a stream, asked again")
	}
}

func TestP43Back(t *testing.T) {
	for _, key := range keys() {
		nonce := nonceOf(some(12, int64(key[1])))
		for _, n := range append(sizes(), 300*block, 300*block+1) {
			for _, text := range []string{some(n, 15), strings.Repeat("\x00", n), strings.Repeat("\xff", n)} {
				if aes.Stream(key, nonce, aes.Stream(key, nonce, text)) != text {
					t.Fatalf("%d bytes", n)
				}
			}
		}
	}
}

// Under another key, or nonce, it's not the text.
func TestP43NotBack(t *testing.T) {
	key, nonce, text := keyOf("key"), nonceOf("nonce"), some(40, 16)
	s := aes.Stream(key, nonce, text)
	if aes.Stream(keyOf("kez"), nonce, s) == text || aes.Stream(key, nonceOf("noncf"), s) == text {
		t.Error("another's stream")
	}
}

func TestP43Beginnings(t *testing.T) {
	for seed := range int64(5) {
		key, nonce, text := keyOf(some(32, seed)), nonceOf(some(12, seed)), some(280, seed)
		s := aes.Stream(key, nonce, text)
		for n := range len(text) + 1 {
			if aes.Stream(key, nonce, text[:n]) != s[:n] {
				t.Fatalf("%d bytes of %d", n, len(text))
			}
		}
	}
}

// What comes behind a beginning tells nothing of it.
func TestP43OtherEnds(t *testing.T) {
	key, nonce := keyOf("key"), nonceOf("nonce")
	for _, n := range sizes() {
		head := some(n, 17)
		a, b := aes.Stream(key, nonce, head+some(50, 18)), aes.Stream(key, nonce, head+some(70, 19))
		if a[:n] != b[:n] || a[:n] != aes.Stream(key, nonce, head) {
			t.Errorf("%d bytes, and others behind them", n)
		}
	}
}

// Two blocks that differ in one bit, or one byte, are enciphered to two.
func TestP43NearBlocks(t *testing.T) {
	for _, key := range keys() {
		for _, in := range blocks() {
			out, again := aes.Block(key, in), in
			if aes.Block(key, again) != out {
				t.Fatal("the same block")
			}
			for i := range 128 {
				other := in
				other[i/8] ^= 1 << (i % 8)
				if aes.Block(key, other) == out {
					t.Fatalf("%x and %x under %x", in, other, key)
				}
			}
		}
	}
	seen := map[[16]byte]bool{}
	for i := range block {
		for v := 1; v < 256; v++ {
			var in [16]byte
			in[i] = byte(v)
			seen[aes.Block(keyOf("key"), in)] = true
		}
	}
	if len(seen) != block*255 {
		t.Errorf("%d answers, not %d", len(seen), block*255)
	}
}

// What a block is enciphered to leads back to it, and to no other one.
func TestP43OneBlock(t *testing.T) {
	for seed := range int64(2000) {
		key, in := keyOf(some(32, seed)), inOf(some(16, -seed))
		out := aes.Block(key, in)
		var back [16]byte
		cipherOf(t, key).Decrypt(back[:], out[:])
		if back != in {
			t.Fatalf("%x under %x is of %x", out, key, back)
		}
	}
}

// Blocks of few values, many of which are the same.
func TestP43SameBlocks(t *testing.T) {
	r := rand.New(rand.NewSource(20))
	key := keyOf(some(32, 21))
	of, from := map[[16]byte][16]byte{}, map[[16]byte][16]byte{}
	for range 5000 {
		var in [16]byte
		for range 2 {
			in[r.Intn(block)] = byte(r.Intn(4))
		}
		out := aes.Block(key, in)
		if was, is := of[in]; is && was != out {
			t.Fatalf("%x is enciphered to two", in)
		}
		if was, is := from[out]; is && was != in {
			t.Fatalf("%x and %x are enciphered to one", in, was)
		}
		of[in], from[out] = out, in
	}
}
