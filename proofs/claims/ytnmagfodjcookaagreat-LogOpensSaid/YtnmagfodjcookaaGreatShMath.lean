/-
  SHA-256 as plain functions on numbers, and how the walk's own numbers read as these.
-/
import Derived.WalkKit
import Derived.Laws.BitsAllLaws
namespace Go.Proofs.YtnmagfodjcookaaGreat.Sm

def add (a b : Nat) : Nat := (a + b) % 4294967296
def rot (x n : Nat) : Nat := x * 2 ^ (32 - n) % 4294967296 ||| x / 2 ^ n
def comp (x : Nat) : Nat := 4294967295 ^^^ x
def s0 (x : Nat) : Nat := rot x 7 ^^^ rot x 18 ^^^ x / 8
def s1 (x : Nat) : Nat := rot x 17 ^^^ rot x 19 ^^^ x / 1024
def be4 (a b c d : Nat) : Nat := a * 16777216 + b * 65536 + c * 256 + d

theorem add_lt (a b : Nat) : add a b < 4294967296 := Nat.mod_lt _ (by decide)
theorem xor_lt {a b : Nat} (ha : a < 4294967296) (hb : b < 4294967296) : a ^^^ b < 4294967296 := Nat.xor_lt_two_pow (n := 32) ha hb
theorem and_lt {a b : Nat} (hb : b < 4294967296) : a &&& b < 4294967296 := Nat.and_lt_two_pow (n := 32) a hb
theorem or_lt {a b : Nat} (ha : a < 4294967296) (hb : b < 4294967296) : a ||| b < 4294967296 := Nat.or_lt_two_pow (n := 32) ha hb
theorem rot_lt {x n : Nat} (hx : x < 4294967296) : rot x n < 4294967296 := or_lt (Nat.mod_lt _ (by decide)) (Nat.lt_of_le_of_lt (Nat.div_le_self _ _) hx)
theorem comp_lt {x : Nat} (hx : x < 4294967296) : comp x < 4294967296 := xor_lt (by decide) hx
theorem s0_lt {x : Nat} (hx : x < 4294967296) : s0 x < 4294967296 := xor_lt (xor_lt (rot_lt hx) (rot_lt hx)) (by omega)
theorem s1_lt {x : Nat} (hx : x < 4294967296) : s1 x < 4294967296 := xor_lt (xor_lt (rot_lt hx) (rot_lt hx)) (by omega)
theorem be4_lt {a b c d : Nat} (ha : a < 256) (hb : b < 256) (hc : c < 256) (hd : d < 256) : be4 a b c d < 4294967296 := by unfold be4; omega

/- The walk's numbers. -/
theorem w_add (a b : Nat) : IntKind.u32.wrap ((a : Int) + b) = (add a b : Nat) := by rw [IntKind.wrap_u32]; unfold add; omega
theorem w_mul (a b : Nat) : IntKind.u32.wrap ((a : Int) * b) = (a * b % 4294967296 : Nat) := by rw [IntKind.wrap_u32, ← Int.natCast_mul]; omega
theorem ofInt32 (a : Nat) (ha : a < 4294967296) : (BitVec.ofInt 32 (a : Int)).toNat = a := by
  rw [BitVec.ofInt_natCast, BitVec.toNat_ofNat]; exact Nat.mod_eq_of_lt ha
theorem wrap32n (n : Nat) (h : n < 4294967296) : IntKind.u32.wrap (n : Int) = n := by rw [IntKind.wrap_u32]; omega
theorem w_xor {a b : Nat} (ha : a < 4294967296) (hb : b < 4294967296) : bits .xor .u32 (a : Int) (b : Int) = ((a ^^^ b : Nat) : Int) := by
  show IntKind.u32.wrap ((BitVec.ofInt 32 (a : Int) ^^^ BitVec.ofInt 32 (b : Int)).toNat : Int) = _
  rw [BitVec.toNat_xor, ofInt32 a ha, ofInt32 b hb]; exact wrap32n _ (xor_lt ha hb)
theorem w_and {a b : Nat} (ha : a < 4294967296) (hb : b < 4294967296) : bits .and .u32 (a : Int) (b : Int) = ((a &&& b : Nat) : Int) := by
  show IntKind.u32.wrap ((BitVec.ofInt 32 (a : Int) &&& BitVec.ofInt 32 (b : Int)).toNat : Int) = _
  rw [BitVec.toNat_and, ofInt32 a ha, ofInt32 b hb]; exact wrap32n _ (and_lt hb)
theorem w_or {a b : Nat} (ha : a < 4294967296) (hb : b < 4294967296) : bits .or .u32 (a : Int) (b : Int) = ((a ||| b : Nat) : Int) := by
  show IntKind.u32.wrap ((BitVec.ofInt 32 (a : Int) ||| BitVec.ofInt 32 (b : Int)).toNat : Int) = _
  rw [BitVec.toNat_or, ofInt32 a ha, ofInt32 b hb]; exact wrap32n _ (or_lt ha hb)
theorem w_comp {a : Nat} (ha : a < 4294967296) : bits .xor .u32 4294967295 (a : Int) = (comp a : Nat) := w_xor (a := 4294967295) (by decide) ha

theorem or_top (a b i : Nat) (h : b < 2 ^ i) : a * 2 ^ i ||| b = a * 2 ^ i + b := by
  rw [Nat.mul_comm, ← Nat.two_pow_add_eq_or_of_lt h]
theorem be4_or (a b c d : Nat) (_ha : a < 256) (hb : b < 256) (hc : c < 256) (hd : d < 256) :
    ((a * 16777216 ||| b * 65536) ||| c * 256) ||| d = be4 a b c d := by
  have h1 : a * 16777216 ||| b * 65536 = (a * 256 + b) * 65536 := by
    rw [show a * 16777216 = a * 2 ^ 24 by rfl, or_top a (b * 65536) 24 (by omega)]; omega
  have h2 : (a * 256 + b) * 65536 ||| c * 256 = ((a * 256 + b) * 256 + c) * 256 := by
    rw [show (a * 256 + b) * 65536 = (a * 256 + b) * 2 ^ 16 by rfl, or_top _ (c * 256) 16 (by omega)]; omega
  rw [h1, h2, show ((a * 256 + b) * 256 + c) * 256 = ((a * 256 + b) * 256 + c) * 2 ^ 8 by rfl, or_top _ d 8 (by omega)]
  unfold be4; omega

/-- The eight words. -/
structure V where
  a : Nat
  b : Nat
  c : Nat
  d : Nat
  e : Nat
  f : Nat
  g : Nat
  h : Nat
structure V.Ok (v : V) : Prop where
  a : v.a < 4294967296
  b : v.b < 4294967296
  c : v.c < 4294967296
  d : v.d < 4294967296
  e : v.e < 4294967296
  f : v.f < 4294967296
  g : v.g < 4294967296
  h : v.h < 4294967296
def V.l (v : V) : List Nat := [v.a, v.b, v.c, v.d, v.e, v.f, v.g, v.h]

def sum1 (e : Nat) : Nat := rot e 6 ^^^ rot e 11 ^^^ rot e 25
def sum0 (a : Nat) : Nat := rot a 2 ^^^ rot a 13 ^^^ rot a 22
def chs (e f g : Nat) : Nat := (e &&& f) ^^^ (comp e &&& g)
def maj (a b c : Nat) : Nat := (a &&& b) ^^^ (a &&& c) ^^^ (b &&& c)
def t1 (v : V) (k w : Nat) : Nat := add (add (add (add v.h (sum1 v.e)) (chs v.e v.f v.g)) k) w
def t2 (v : V) : Nat := add (sum0 v.a) (maj v.a v.b v.c)
def round (v : V) (k w : Nat) : V := ⟨add (t1 v k w) (t2 v), v.a, v.b, v.c, add v.d (t1 v k w), v.e, v.f, v.g⟩
theorem round_ok {v : V} (h : v.Ok) (k w : Nat) : (round v k w).Ok := ⟨add_lt _ _, h.a, h.b, h.c, add_lt _ _, h.e, h.f, h.g⟩

/-- The words behind the first i rounds. -/
def rounds (v : V) (ks ws : List Nat) : Nat → V
  | 0 => v
  | i + 1 => round (rounds v ks ws i) (ks.getD i 0) (ws.getD i 0)
theorem rounds_ok {v : V} (h : v.Ok) (ks ws : List Nat) (i : Nat) : (rounds v ks ws i).Ok := by
  induction i with
  | zero => exact h
  | succ i ih => exact round_ok ih _ _
def plus (u v : V) : V := ⟨add u.a v.a, add u.b v.b, add u.c v.c, add u.d v.d, add u.e v.e, add u.f v.f, add u.g v.g, add u.h v.h⟩
theorem plus_ok (u v : V) : (plus u v).Ok := ⟨add_lt _ _, add_lt _ _, add_lt _ _, add_lt _ _, add_lt _ _, add_lt _ _, add_lt _ _, add_lt _ _⟩

/-- The i-th word of a block. -/
def word (b : List UInt8) (i : Nat) : Nat := be4 (b.getD (4 * i) 0).toNat (b.getD (4 * i + 1) 0).toNat (b.getD (4 * i + 2) 0).toNat (b.getD (4 * i + 3) 0).toNat
theorem word_lt (b : List UInt8) (i : Nat) : word b i < 4294967296 := be4_lt (UInt8.toNat_lt _) (UInt8.toNat_lt _) (UInt8.toNat_lt _) (UInt8.toNat_lt _)
def next (l : List Nat) : Nat := add (add (add (l.getD (l.length - 16) 0) (s0 (l.getD (l.length - 15) 0))) (l.getD (l.length - 7) 0)) (s1 (l.getD (l.length - 2) 0))
/-- The first words of the 64: n behind the 16. -/
def words (b : List UInt8) : Nat → List Nat
  | 0 => (List.range 16).map (word b)
  | n + 1 => words b n ++ [next (words b n)]
theorem words_length (b : List UInt8) (n : Nat) : (words b n).length = 16 + n := by
  induction n with
  | zero => simp [words]
  | succ n ih => simp [words, ih]; omega
theorem words_lt (b : List UInt8) (n : Nat) : ∀ x ∈ words b n, x < 4294967296 := by
  induction n with
  | zero => intro x hx; obtain ⟨i, _, rfl⟩ := List.mem_map.1 hx; exact word_lt b i
  | succ n ih =>
    intro x hx
    rcases List.mem_append.1 hx with h | h
    · exact ih x h
    · simp at h; subst h; exact add_lt _ _
theorem getD_lt {l : List Nat} (h : ∀ x ∈ l, x < 4294967296) (i : Nat) : l.getD i 0 < 4294967296 := by
  rw [List.getD_eq_getElem?_getD]
  cases hq : l[i]? with
  | none => decide
  | some x => exact h x (List.mem_of_getElem? hq)

def ks : List Nat := [1116352408, 1899447441, 3049323471, 3921009573, 961987163, 1508970993, 2453635748, 2870763221, 3624381080, 310598401, 607225278, 1426881987, 1925078388, 2162078206, 2614888103, 3248222580, 3835390401, 4022224774, 264347078, 604807628, 770255983, 1249150122, 1555081692, 1996064986, 2554220882, 2821834349, 2952996808, 3210313671, 3336571891, 3584528711, 113926993, 338241895, 666307205, 773529912, 1294757372, 1396182291, 1695183700, 1986661051, 2177026350, 2456956037, 2730485921, 2820302411, 3259730800, 3345764771, 3516065817, 3600352804, 4094571909, 275423344, 430227734, 506948616, 659060556, 883997877, 958139571, 1322822218, 1537002063, 1747873779, 1955562222, 2024104815, 2227730452, 2361852424, 2428436474, 2756734187, 3204031479, 3329325298]
def h0 : V := ⟨1779033703, 3144134277, 1013904242, 2773480762, 1359893119, 2600822924, 528734635, 1541459225⟩
theorem h0_ok : h0.Ok := ⟨by decide, by decide, by decide, by decide, by decide, by decide, by decide, by decide⟩
theorem ks_length : ks.length = 64 := by decide
theorem ks_lt : ∀ x ∈ ks, x < 4294967296 := by decide

/-- The words behind a block. -/
def turn (v : V) (b : List UInt8) : V := plus (rounds v ks (words b 48) 64) v
theorem turn_ok (v : V) (b : List UInt8) : (turn v b).Ok := plus_ok _ _

/-- The words behind n blocks of a text. -/
def feed (v : V) : Nat → List UInt8 → V
  | 0, _ => v
  | n + 1, t => feed (turn v (t.take 64)) n (t.drop 64)
theorem feed_ok {v : V} (h : v.Ok) (n : Nat) (t : List UInt8) : (feed v n t).Ok := by
  induction n generalizing v t with
  | zero => exact h
  | succ n ih => exact ih (turn_ok _ _) _
/-- The words behind all whole blocks of a text. -/
def st (t : List UInt8) : V := feed h0 (t.length / 64) t
theorem st_ok (t : List UInt8) : (st t).Ok := feed_ok h0_ok _ _
/-- What waits. -/
def tail (t : List UInt8) : List UInt8 := t.drop (64 * (t.length / 64))
theorem tail_length (t : List UInt8) : (tail t).length = t.length % 64 := by unfold tail; rw [List.length_drop]; omega

theorem feed_append (v : V) (n : Nat) (t p : List UInt8) (h : 64 * n ≤ t.length) : feed v n (t ++ p) = feed v n t := by
  induction n generalizing v t with
  | zero => rfl
  | succ n ih =>
    unfold feed
    rw [List.take_append_of_le_length (by omega), List.drop_append_of_le_length (by omega)]
    exact ih _ _ (by rw [List.length_drop]; omega)
theorem feed_snoc (v : V) (n : Nat) (t : List UInt8) : feed v (n + 1) t = turn (feed v n t) ((t.drop (64 * n)).take 64) := by
  induction n generalizing v t with
  | zero => simp [feed]
  | succ n ih =>
    rw [feed, ih]
    rw [show feed v (n + 1) t = feed (turn v (t.take 64)) n (t.drop 64) from rfl, List.drop_drop, show 64 + 64 * n = 64 * (n + 1) by omega]

theorem st_short (t p : List UInt8) (h : t.length % 64 + p.length < 64) : st (t ++ p) = st t ∧ tail (t ++ p) = tail t ++ p := by
  have e : (t ++ p).length / 64 = t.length / 64 := by rw [List.length_append]; omega
  unfold st tail
  rw [e]
  exact ⟨feed_append _ _ _ _ (by omega), List.drop_append_of_le_length (by omega)⟩
theorem st_full (t p : List UInt8) (h : t.length % 64 + p.length = 64) : st (t ++ p) = turn (st t) (tail t ++ p) ∧ tail (t ++ p) = [] := by
  have e : (t ++ p).length / 64 = t.length / 64 + 1 := by rw [List.length_append]; omega
  unfold st tail
  rw [e]
  constructor
  · rw [feed_snoc, feed_append _ _ _ _ (by omega), List.drop_append_of_le_length (by omega), List.take_of_length_le (by rw [List.length_append, List.length_drop]; omega)]
  · exact List.drop_of_length_le (by rw [List.length_append]; omega)

def be8 (n : Nat) : List UInt8 := (List.range 8).map fun i => UInt8.ofNat (n / 2 ^ (56 - 8 * i))
/-- What is put behind a text of n bytes. -/
def pad (n : Nat) : List UInt8 := 128 :: (List.replicate ((119 - n % 64) % 64) 0 ++ be8 (n * 8))
theorem pad_length (n : Nat) : (pad n).length = (119 - n % 64) % 64 + 9 := by simp [pad, be8]
/-- A hash's bytes. -/
def outN (l : List Nat) : List UInt8 := (List.range 32).map fun i => UInt8.ofNat (l.getD (i / 4) 0 / 2 ^ (24 - i % 4 * 8))
def sum (t : List UInt8) : List UInt8 := outN (st (t ++ pad t.length)).l
theorem sum_length (t : List UInt8) : (sum t).length = 32 := by simp [sum, outN]

def digit (n : Nat) : UInt8 := UInt8.ofNat (if n < 10 then 48 + n else 87 + n)
def digits : List UInt8 → List UInt8
  | [] => []
  | c :: l => digit (c.toNat / 16) :: digit (c.toNat % 16) :: digits l
end Go.Proofs.YtnmagfodjcookaaGreat.Sm
