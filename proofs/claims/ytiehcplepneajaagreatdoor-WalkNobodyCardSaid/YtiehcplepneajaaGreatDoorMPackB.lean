/-
  Texts that belong together, laid into one.
-/
import Derived.Test.YtiehcplepneajaaGreatDoorMBase
import Derived.Test.YtiehcplepneajaaGreatDoorShelf
import Derived.Test.YtiehcplepneajaaGreatDoorProg
import Derived.WalkKit
import Derived.Lib.Strings
import Derived.Lib.Hide
import Derived.Deep.QuietTactic
import Derived.BigQuiet
import Derived.Deep.RegionLaw
import Derived.Lib.UnsafeStr
/-
  What pack's number reads of a text is what the plain reading 'dec' tells of its bytes: for every text.
-/
namespace Go.Proofs.YtiehcplepneajaaGreatDoor
open Go.RowKit
namespace Pk

theorem mask127 (b : UInt8) : bits .and .u8 (b.toNat : Int) 127 = ((b.toNat % 128 : Nat) : Int) := by
  have h := b.toNat_lt
  have e := bits_mask .u8 8 (by decide) wraps_u8 7 (by decide) (b.toNat : Int) (by omega) (by omega)
  rw [show ((2 : Int) ^ 7 - 1) = 127 from rfl, show ((2 : Int) ^ 7) = 128 from rfl] at e
  rw [e]; omega

/-- The or of a number and a digit ahead of it is their sum. -/
theorem or_add (X d k : Nat) (hX : X < 2 ^ (7 * k)) (h : X + d * 2 ^ (7 * k) < 2 ^ 64) :
    bits .or .u64 (X : Int) ((d * 2 ^ (7 * k) : Nat) : Int) = ((X + d * 2 ^ (7 * k) : Nat) : Int) := by
  rw [bits_or_u64_nat X (d * 2 ^ (7 * k)) (by omega) (by omega)]
  congr 1
  rw [Nat.or_comm, Nat.mul_comm d, ← Nat.two_pow_add_eq_or_of_lt hX, Nat.add_comm]

/-- What a digit adds, as the machine has it. -/
theorem digit (b : UInt8) (X k : Nat) (hX : X < 2 ^ 64) :
    bits .or .u64 (X : Int) (IntKind.u64.wrap (IntKind.u64.wrap (bits .and .u8 (b.toNat : Int) 127) * 2 ^ (7 * k))) = ((X ||| (b.toNat % 128 * 2 ^ (7 * k) % 2 ^ 64) : Nat) : Int) := by
  rw [mask127, IntKind.wrap_u64, IntKind.wrap_u64]
  have e : ((b.toNat % 128 : Nat) : Int) % 18446744073709551616 = ((b.toNat % 128 : Nat) : Int) := by omega
  rw [e]
  have e2 : ((b.toNat % 128 : Nat) : Int) * 2 ^ (7 * k) % 18446744073709551616 = ((b.toNat % 128 * 2 ^ (7 * k) % 2 ^ 64 : Nat) : Int) := by
    simp [Int.natCast_mul, Int.natCast_pow]
  rw [e2]
  exact bits_or_u64_nat X _ (by omega) (by omega)

theorem sum_of (X d k : Nat) (hX : X < 2 ^ (7 * k)) (h : d * 2 ^ (7 * k) < 2 ^ 64) : (X ||| (d * 2 ^ (7 * k) % 2 ^ 64)) = X + d * 2 ^ (7 * k) := by
  rw [Nat.mod_eq_of_lt h, Nat.or_comm, Nat.mul_comm d, ← Nat.two_pow_add_eq_or_of_lt hX, Nat.add_comm]

theorem lt_of (X k : Nat) (hk : k ≤ 9) (hX : k ≤ 9 → X < 2 ^ (7 * k)) : X < 2 ^ 64 := by
  have h1 := hX hk
  have h2 := pow_le hk
  omega

theorem low_room (d k : Nat) (hk : k ≤ 8) (hd : d ≤ 127) : d * 2 ^ (7 * k) < 2 ^ 64 := by
  have h4 := pow_le hk
  have h5 : d * 2 ^ (7 * k) ≤ 127 * 2 ^ (7 * 8) := Nat.mul_le_mul hd h4
  omega

theorem drop_at {s : ByteArray} {k : Nat} (h : k < s.size) : s.data.toList.drop k = s[k] :: s.data.toList.drop (k + 1) := by
  have h1 : k < s.data.toList.length := by simpa using h
  rw [List.drop_eq_getElem_cons h1]
  rfl

theorem or_lt (a b : Nat) (ha : a < 2 ^ 64) (hb : b < 2 ^ 64) : a ||| b < 2 ^ 64 := Nat.or_lt_two_pow ha hb

/-- A round that goes on. -/
theorem dec_on {s : ByteArray} {X k : Nat} (h : k < s.size) (hk : k < 10) (hX : k ≤ 9 → X < 2 ^ (7 * k)) (hb : (127 : Int) < s[k].toNat)
    (hd : dec 0 0 s.data.toList = dec X k (s.data.toList.drop k)) :
    ∃ X' : Nat, (k + 1 ≤ 9 → X' < 2 ^ (7 * (k + 1))) ∧
      bits .or .u64 (X : Int) (IntKind.u64.wrap (IntKind.u64.wrap (bits .and .u8 (s[k].toNat : Int) 127) * 2 ^ (7 * k))) = (X' : Int) ∧
      dec 0 0 s.data.toList = dec X' (k + 1) (s.data.toList.drop (k + 1)) := by
  have hX64 := lt_of X k (by omega) hX
  refine ⟨_, ?_, digit _ X k hX64, ?_⟩
  · intro h9
    have h1 := low_room (s[k].toNat % 128) k (by omega) (by omega)
    rw [sum_of X _ k (hX (by omega)) h1, pow_step]
    have h2 : s[k].toNat % 128 * 2 ^ (7 * k) ≤ 127 * 2 ^ (7 * k) := Nat.mul_le_mul_right _ (by omega)
    have h3 := hX (by omega)
    omega
  · by_cases h9 : k = 9
    · subst h9
      rw [hd, drop_at h, dec, if_pos (by omega), if_pos (by omega), dec_ten, dec_ten]
    · have h1 := low_room (s[k].toNat % 128) k (by omega) (by omega)
      rw [sum_of X _ k (hX (by omega)) h1, hd, drop_at h, dec, if_pos hk, if_pos (by omega)]

/-- A last byte that is none. -/
theorem dec_bad {s : ByteArray} {X k : Nat} (h : k < s.size) (hk : k < 10) (hb : ¬ (127 : Int) < s[k].toNat)
    (hbad : (0 < k ∧ s[k].toNat = 0) ∨ (k = 9 ∧ 1 < s[k].toNat))
    (hd : dec 0 0 s.data.toList = dec X k (s.data.toList.drop k)) : dec 0 0 s.data.toList = (0, 0, 8) := by
  rw [hd, drop_at h, dec, if_pos hk, if_neg (by omega), if_pos hbad]

/-- A last byte. -/
theorem dec_good {s : ByteArray} {X k : Nat} (h : k < s.size) (hk : k < 10) (hX : k ≤ 9 → X < 2 ^ (7 * k)) (hb : ¬ (127 : Int) < s[k].toNat)
    (hbad : ¬ ((0 < k ∧ s[k].toNat = 0) ∨ (k = 9 ∧ 1 < s[k].toNat)))
    (hd : dec 0 0 s.data.toList = dec X k (s.data.toList.drop k)) :
    (dec 0 0 s.data.toList).1 = bits .or .u64 (X : Int) (IntKind.u64.wrap (IntKind.u64.wrap (bits .and .u8 (s[k].toNat : Int) 127) * 2 ^ (7 * k))) ∧ (dec 0 0 s.data.toList).2 = (k + 1, 0) := by
  have hX64 := lt_of X k (by omega) hX
  have h1 : s[k].toNat % 128 * 2 ^ (7 * k) < 2 ^ 64 := by
    rcases Nat.lt_or_ge k 9 with h8 | h8
    · exact low_room _ k (by omega) (by omega)
    · obtain rfl : k = 9 := by omega
      have : s[9].toNat % 128 * 2 ^ (7 * 9) ≤ 1 * 2 ^ (7 * 9) := Nat.mul_le_mul_right _ (by omega)
      omega
  rw [digit _ X k hX64, sum_of X _ k (hX (by omega)) h1, hd, drop_at h, dec, if_pos hk, if_neg (by omega), if_neg hbad]
  rw [show s[k].toNat % 128 = s[k].toNat from by omega]
  exact ⟨rfl, rfl⟩

theorem ret_int {k : IntKind} {a b : Int} (h : a = b) : Ending.returned (.int k a) = .returned (.int k b) := by rw [h]
theorem ret_int3 {k1 k2 k3 : IntKind} {a b c a' b' c' : Int} (h1 : a = a') (h2 : b = b') (h3 : c = c') : Ending.returned (.tuple #[.int k1 a, .int k2 b, .int k3 c]) = .returned (.tuple #[.int k1 a', .int k2 b', .int k3 c']) := by rw [h1, h2, h3]

end Pk
open Pk

theorem heap_set {w : World} {b : Nat} {c : Array Value} {e : TypeId} {fz : Nat × Nat} (h : w.heap[b]? = some (.cells c e fz)) (o : Nat) (v : Value) :
    (w.setCell ⟨b, o, none⟩ v).heap[b]? = some (.cells (c.setIfInBounds o v) e fz) := by
  simp [World.setCell, Array.getElem?_modify, h]

end Go.Proofs.YtiehcplepneajaaGreatDoor

/-
  What the calls of a pack reader do, said of the plain reader: for every reader that lies in memory.
-/
namespace Go.Proofs.YtiehcplepneajaaGreatDoor
open Go.RowKit Pk

theorem grown_refl (w : World) (r : Option Nat) : w.grownBy w r := ⟨rfl, rfl, rfl, Nat.le_refl _, fun _ _ _ => rfl⟩
theorem grown_trans {a b c : World} {r : Option Nat} (h : a.grownBy b r) (k : b.grownBy c r) : a.grownBy c r :=
  ⟨k.os.trans h.os, k.tape.trans h.tape, k.output.trans h.output, Nat.le_trans h.size k.size, fun i hi hn => (k.block i (Nat.lt_of_lt_of_le hi h.size) hn).trans (h.block i hi hn)⟩
theorem grown_set {a w : World} {b : Nat} (h : a.grownBy w (some b)) (o : Nat) (v : Value) : a.grownBy (w.setCell ⟨b, o, none⟩ v) (some b) :=
  grown_trans h ⟨rfl, rfl, rfl, by simp, fun k _ hn => Below.heap_setCell _ _ _ _ (fun e => hn (by rw [e]))⟩
theorem grown_drewN {a w : World} {r : Option Nat} (h : a.grownBy w r) (n : Nat) : a.grownBy (w.drewN n) r := ⟨h.os, h.tape, h.output, h.size, h.block⟩
theorem grown_below {a w : World} {r : Option Nat} (h : Below a.heap.size a w) : a.grownBy w r := ⟨h.os, h.tape, h.output, h.size, fun k hk _ => h.block k hk⟩

end Go.Proofs.YtiehcplepneajaaGreatDoor

/-
  What the reading calls of a pack reader do (Num, Most, Int, Byte, Left, End), said of the plain reader.
-/
namespace Go.Proofs.YtiehcplepneajaaGreatDoor
open Go.RowKit Pk

theorem extract_rest (r : Rd) : (r.s.extract r.pos r.s.size).data.toList = r.rest := by
  have h : (r.s.extract r.pos r.s.size).data.toList = (r.s.data.toList.drop r.pos).take (r.s.size - r.pos) := by
    simp
  rw [h, List.take_of_length_le (by simp)]
  rfl

theorem extract_le (r : Rd) (hr : r.Ok) : (r.s.extract r.pos r.s.size).size ≤ maxLen := by
  have h2 := hr.lim
  rw [ByteArray.size_extract]
  unfold maxLen
  omega

end Go.Proofs.YtiehcplepneajaaGreatDoor

/-
  What the reading calls of a pack reader do, further (Most, Int, Byte, Left, End), and of a nil reader.
-/
namespace Go.Proofs.YtiehcplepneajaaGreatDoor
open Go.RowKit Pk

theorem i64_xor_zero (a : Nat) (ha : a < 9223372036854775808) : bits .xor .i64 (a : Int) 0 = (a : Int) := by
  show IntKind.i64.wrap ((BitVec.ofInt 64 (a : Int) ^^^ BitVec.ofInt 64 0).toNat : Int) = _
  have h1 : BitVec.ofInt 64 0 = 0#64 := by decide
  have h2 : (BitVec.ofInt 64 (a : Int)).toNat = a := by
    rw [BitVec.ofInt_natCast, BitVec.toNat_ofNat]; exact Nat.mod_eq_of_lt (by omega)
  rw [h1, BitVec.xor_zero, h2]
  exact IntWalk.i64_in _ (by omega)
theorem i64_xor_ones (a : Nat) (ha : a < 9223372036854775808) : bits .xor .i64 (a : Int) (-1) = -(a : Int) - 1 := by
  show IntKind.i64.wrap ((BitVec.ofInt 64 (a : Int) ^^^ BitVec.ofInt 64 (-1)).toNat : Int) = _
  have h1 : BitVec.ofInt 64 (-1) = BitVec.allOnes 64 := by decide
  have h2 : (BitVec.ofInt 64 (a : Int)).toNat = a := by
    rw [BitVec.ofInt_natCast, BitVec.toNat_ofNat]; exact Nat.mod_eq_of_lt (by omega)
  rw [h1, BitVec.xor_allOnes, BitVec.toNat_not, h2, IntKind.wrap_i64]
  omega

theorem zag_xor (v : Nat) (hb : v < 2 ^ 64) : bits .xor .i64 ((v : Int) / 2) (wrap64 (-wrap64 (bits .and .u64 (v : Int) 1))) = zag v := by
  have h1 : bits .and .u64 (v : Int) 1 = ((v % 2 : Nat) : Int) := by
    have := bits_and_u64_nat v 1 (by omega) (by omega)
    rw [Nat.and_one_is_mod] at this
    exact this
  rw [h1]
  have hd : (v : Int) / 2 = ((v / 2 : Nat) : Int) := by omega
  rw [hd]
  unfold zag
  by_cases h : v % 2 = 0
  · rw [h, if_pos rfl]
    rw [show wrap64 (-wrap64 ((0 : Nat) : Int)) = 0 from by unfold wrap64; omega]
    exact i64_xor_zero _ (by omega)
  · have h2 : v % 2 = 1 := by omega
    rw [h2, if_neg (by decide)]
    rw [show wrap64 (-wrap64 ((1 : Nat) : Int)) = -1 from by unfold wrap64; omega]
    exact i64_xor_ones _ (by omega)

end Go.Proofs.YtiehcplepneajaaGreatDoor

/-
  What the calls of a pack reader do that copy a text (Of, Text), and what each call of a nil reader tells.
-/
namespace Go.Proofs.YtiehcplepneajaaGreatDoor
open Go.RowKit Pk

set_option maxHeartbeats 400000 in
theorem clone_any (s : ByteArray) (w : World) (hlim : s.size ≤ 281474976710656) :
    Calls Tryz.prog 70 #[.string s] w fun e w' => e = .returned (.string s) ∧ Below w.heap.size w w' := by
  go_enter Tryz.func70, Tryz.ntmps70
  go_wp2_with (go_at_call 103; refine (stringslite_Clone _ _ hlim).mono ?_; rintro e w1 ⟨rfl, hb⟩)
  go_ret
  exact ⟨rfl, hb⟩

theorem size_take (l : List UInt8) (a n : Nat) (h : n ≤ 281474976710656) : (ByteArray.mk ((l.drop a).take n).toArray).size ≤ 281474976710656 := by
  show ((l.drop a).take n).toArray.size ≤ _
  simp
  omega

theorem text_of (r : Rd) (a n : Nat) :
    (r.s.extract r.pos r.s.size).extract a (a + n) = ⟨((r.rest.drop a).take n).toArray⟩ := by
  apply ByteArray.ext
  apply Array.ext'
  rw [Lib.extract_data, extract_rest]
  simp

/-! The same, where what the plain reader tells is known. -/
/-! A nil reader. -/
theorem cnt_nil (m : Int) : cnt [] m = (0, 0, 7) := by simp [cnt, dec]

end Go.Proofs.YtiehcplepneajaaGreatDoor

/-
  What the writing calls of pack do: an Out that lies in memory has its bytes, and those that are put behind them.
-/
namespace Go.Proofs.YtiehcplepneajaaGreatDoor
open Go.RowKit Pk

/-- An Out with these bytes lies in block o; all that is its own lies from block B on. -/
def outAt (w : World) (B o : Nat) (bs : List UInt8) : Prop :=
  B ≤ o ∧ ((w.heap[o]? = some (.cells #[.pointer none, .int .i64 0] 157 (0, 0)) ∧ bs = []) ∨
    ∃ q A c, B ≤ q ∧ w.heap[o]? = some (.cells #[.pointer (some ⟨q, 0, none⟩), .int .i64 bs.length] 157 (0, 0)) ∧
      w.heap[q]? = some (.cells #[.slice A bs.length c] 127 (0, 0)) ∧ w.ownsRow B 5 1 (.slice A bs.length c) bs.length (Lib.byteCells bs))

/-- Every block that is neither an Out, nor a slice of bytes, nor bytes, is as it was. -/
def Fr (w w' : World) : Prop := ∀ (g : Nat) (c : Array Value) (t : TypeId) (fz : Nat × Nat), w.heap[g]? = some (.cells c t fz) → t ≠ 157 → t ≠ 127 → t ≠ 5 → w'.heap[g]? = some (.cells c t fz)
theorem Fr.refl (w : World) : Fr w w := fun _ _ _ _ h _ _ _ => h
theorem Fr.trans {a b c : World} (h : Fr a b) (k : Fr b c) : Fr a c := fun g x t fz h1 h2 h3 h4 => k g x t fz (h g x t fz h1 h2 h3 h4) h2 h3 h4
theorem Fr.alloc {a w : World} (h : Fr a w) (o : Obj) : Fr a (w.alloc o) := fun g x t fz h1 h2 h3 h4 => by
  have h5 := h g x t fz h1 h2 h3 h4
  rw [Below.heap_alloc _ _ _ (Array.getElem?_eq_some_iff.1 h5).1]
  exact h5
theorem Fr.set {a w : World} {b : Nat} {c : Array Value} {t : TypeId} {fz : Nat × Nat} (k : Fr a w) (h : w.heap[b]? = some (.cells c t fz)) (ht : t = 157 ∨ t = 127 ∨ t = 5) (i : Nat) (v : Value) : Fr a (w.setCell ⟨b, i, none⟩ v) := fun g x t' fz' h1 h2 h3 h4 => by
  have h5 := k g x t' fz' h1 h2 h3 h4
  have hne : g ≠ b := by
    intro e
    subst e
    rw [h] at h5
    simp only [Option.some.injEq, Obj.cells.injEq] at h5
    rcases ht with e | e | e
    · exact h2 (by rw [← h5.2.1]; exact e)
    · exact h3 (by rw [← h5.2.1]; exact e)
    · exact h4 (by rw [← h5.2.1]; exact e)
  rw [Below.heap_setCell _ _ _ _ hne]
  exact h5
theorem Fr.grown {w w' : World} {v : Value} {B size n : Nat} {xs : List Value} (hown : w.ownsRow B 5 size v n xs) (hg : w.grownBy w' v.ownBlock) : Fr w w' := fun g x t fz h1 h2 h3 h4 => by
  rw [hg.block g (Array.getElem?_eq_some_iff.1 h1).1, h1]
  intro heq
  rcases hown.2 with ⟨rfl, _⟩ | ⟨g', cap, cur, rfl, _, hh, _⟩
  · simp [Value.ownBlock] at heq
  · simp [Value.ownBlock] at heq
    subst heq
    rw [h1] at hh
    simp only [Option.some.injEq, Obj.cells.injEq] at hh
    exact h4 hh.2.1

theorem info_u8 : (Tryz.prog.info? 5).map (fun i => (i.zero, i.size, i.bytes)) = some (some (.int .u8 0), 1, 1) := by kernel_rfl

/-- What a block of cells says of its cells. -/
theorem cells_of {w : World} {b : Nat} {c : Array Value} {e : TypeId} (h : w.heap[b]? = some (.cells c e (0, 0))) (i : Nat) (v : Value) (hv : c[i]? = some v) :
    w.cell? ⟨b, i, none⟩ = some v := by simp [World.cell?, h, hv]
theorem free_of {w : World} {b : Nat} {c : Array Value} {e : TypeId} (h : w.heap[b]? = some (.cells c e (0, 0))) (i : Nat) : w.frozen? ⟨b, i, none⟩ = false := by
  simp [World.frozen?, h]

/-- What a slice that is owned looks like. -/
theorem own_shape {w : World} {B e size : Nat} {v : Value} {n : Nat} {xs : List Value} (h : w.ownsRow B e size v n xs) : ∃ A c, v = .slice A n c := by
  rcases h.2 with ⟨rfl, rfl⟩ | ⟨g, cap, cur, rfl, _⟩
  · exact ⟨none, 0, rfl⟩
  · exact ⟨_, cap, rfl⟩

/-- append, onto a slice that is owned, as one step of a region that draws. -/
theorem step_append_own {P : Program} {ops : Array Oper} {o : Oper} {a : Act} {w : World} {K : Act → World → Prop} {Q : Exit → Act → World → Prop} {E : Prop}
    (hgd : o.guard = none) (s x : Operand) (t : TypeId)
    (ho : o.op = .call { callee := .builtin .append, args := #[s, x], argTypes := #[t, t] })
    (base : Nat) (e : TypeId) (i : TypeInfo) (z : Value) (size bytes : Nat) (ht : P.underlying t = some (.slice e)) (hi : P.info? e = some i) (hz : i.zero = some z)
    (hsize : i.size = size) (hby : i.bytes = bytes) (hzs : z.cells.size = size) (hsz : 0 < size)
    (v : Value) (n : Nat) (xs : List Value) (hs : a.eval s = v) (hown : w.ownsRow base e size v n xs)
    (ad : Addr) (m c : Nat) (news : List Value) (hx : a.eval x = .slice (some ad) m c) (hl : news.length = m * size) (hnews : ∀ j u, news[j]? = some u → w.cell? (ad.add j) = some u) (h1 : ∀ u ∈ news, u.oneCell' = true)
    (h63 : n + m ≤ maxLen) (hbytes : (n + m) * bytes ≤ 140737488355328) (hbase : base ≤ w.heap.size)
    (h : ∀ A' c' w', w'.ownsRow base e size (.slice A' (n + m) c') (n + m) (xs ++ news) → w.grownBy w' v.ownBlock → K (a.put o.dst (.slice A' (n + m) c')) w') :
    if Region.wanted o (yielded ops a.tmps) = true then Oper.wp P o a w K Q else E := by
  rw [if_pos (by simp [Region.wanted, hgd])]
  refine wp_append_own w s x t ho base e i z size bytes ht hi hz hsize hby hzs hsz v n xs hs hown ad m c news hx hl hnews h1 h63 hbytes hbase ?_
  intro v' w' h2 h3 _
  obtain ⟨A', c', rfl⟩ := own_shape h2
  exact h A' c' w' h2 h3

/-- What an append leaves of a block that is not the row's. -/
theorem grown_block {w w' : World} {v : Value} {B e e' size n : Nat} {xs : List Value} (hg : w.grownBy w' v.ownBlock) (hown : w.ownsRow B e size v n xs) {b : Nat} {c : Array Value}
    (h : w.heap[b]? = some (.cells c e' (0, 0))) (hne : e' ≠ e) : w'.heap[b]? = some (.cells c e' (0, 0)) := by
  rw [hg.block b (Array.getElem?_eq_some_iff.1 h).1, h]
  intro heq
  rcases hown.2 with ⟨rfl, _⟩ | ⟨g, cap, cur, rfl, _, hh, _⟩
  · simp [Value.ownBlock] at heq
  · simp [Value.ownBlock] at heq
    subst heq
    rw [h] at hh
    simp only [Option.some.injEq, Obj.cells.injEq] at hh
    exact hne hh.2.1

theorem byte_one (l : List UInt8) : ∀ u ∈ Lib.byteCells l, u.oneCell' = true := by
  intro u hu
  obtain ⟨x, _, rfl⟩ := List.mem_map.1 hu
  rfl

theorem own_ne {w : World} {B e e' size n b : Nat} {v : Value} {xs : List Value} {c : Array Value} (hown : w.ownsRow B e size v n xs) (h : w.heap[b]? = some (.cells c e' (0, 0))) (hne : e' ≠ e) : v.ownBlock ≠ some b := by
  intro heq
  rcases hown.2 with ⟨rfl, _⟩ | ⟨g, cap, cur, rfl, _, hh, _⟩
  · simp [Value.ownBlock] at heq
  · simp [Value.ownBlock] at heq
    subst heq
    rw [h] at hh
    simp only [Option.some.injEq, Obj.cells.injEq] at hh
    exact hne hh.2.1

theorem put_close {w w' : World} {B o q m nq : Nat} {bs new : List UInt8} {A A' : Option Addr} {c c' : Nat} (hBo : B ≤ o) (hBq : B ≤ q) (hB : B ≤ w.heap.size)
    (hown : w.ownsRow B 5 1 (.slice A bs.length c) bs.length (Lib.byteCells bs))
    (hO : w'.heap[o]? = some (.cells #[.pointer (some ⟨q, 0, none⟩), .int .i64 bs.length] 157 (0, 0)))
    (hQ : w'.heap[q]? = some (.cells #[.slice A bs.length c] 127 (0, 0)))
    (hown' : w'.ownsRow B 5 1 (.slice A' (bs.length + m) c') (bs.length + m) (Lib.byteCells bs ++ Lib.byteCells new))
    (hg : (w.drewN nq).grownBy w' (Value.slice A bs.length c).ownBlock) (hm : new.length = m) :
    outAt ((w'.setCell ⟨q, 0, none⟩ (.slice A' (bs.length + m) c')).setCell ⟨o, 1, none⟩ (.int .i64 (bs.length + m))) B o (bs ++ new) ∧
      Below B w ((w'.setCell ⟨q, 0, none⟩ (.slice A' (bs.length + m) c')).setCell ⟨o, 1, none⟩ (.int .i64 (bs.length + m))) ∧ Fr w ((w'.setCell ⟨q, 0, none⟩ (.slice A' (bs.length + m) c')).setCell ⟨o, 1, none⟩ (.int .i64 (bs.length + m))) := by
  have hqo : q ≠ o := by
    intro h
    subst h
    rw [hO] at hQ
    simp at hQ
  have h1 : (bs ++ new).length = bs.length + m := by simp [hm]
  have hfr : Fr w ((w'.setCell ⟨q, 0, none⟩ (.slice A' (bs.length + m) c')).setCell ⟨o, 1, none⟩ (.int .i64 (bs.length + m))) := by
    have k0 : Fr w w' := Fr.grown (w := w) hown ⟨hg.os, hg.tape, hg.output, hg.size, hg.block⟩
    have k1 := k0.set hQ (.inr (.inl rfl)) 0 (.slice A' (bs.length + m) c')
    exact k1.set (by rw [Below.heap_setCell _ _ _ _ (fun e => hqo (by rw [e]))]; exact hO) (.inl rfl) 1 _
  refine ⟨⟨hBo, .inr ⟨q, A', c', hBq, ?_, ?_, ?_⟩⟩, ?_, hfr⟩
  · rw [heap_set (by rw [Below.heap_setCell _ _ _ _ (fun e => hqo (by rw [e]))]; exact hO) 1 _, h1]
    simp
  · rw [Below.heap_setCell _ _ _ _ hqo, heap_set hQ 0 _, h1]
    simp
  · rw [h1, Lib.byteCells_append]
    exact ownsRow_setCell_other (ownsRow_setCell_other hown' (own_ne hown' hQ (by decide)) _) (own_ne hown' hO (by decide)) _
  · have hb : Below B w w' := (Below.refl B w).grown (w := w) ⟨hg.os, hg.tape, hg.output, hg.size, hg.block⟩ hB fun k hk => (hown.lt k hk).1
    exact (hb.setCell hBq _).setCell hBo _

set_option maxHeartbeats 1000000 in
/-- Bytes put behind those of an Out that was written to. -/
theorem put_more_fr {w : World} {B o q : Nat} {bs : List UInt8} {A : Option Addr} {c : Nat} (hBo : B ≤ o) (hBq : B ≤ q) (hB : B ≤ w.heap.size)
    (ho : w.heap[o]? = some (.cells #[.pointer (some ⟨q, 0, none⟩), .int .i64 bs.length] 157 (0, 0)))
    (hq : w.heap[q]? = some (.cells #[.slice A bs.length c] 127 (0, 0))) (hown : w.ownsRow B 5 1 (.slice A bs.length c) bs.length (Lib.byteCells bs))
    (ad : Addr) (m cm : Nat) (new : List UInt8) (hm : new.length = m) (hsrc : ∀ j u, (Lib.byteCells new)[j]? = some u → w.cell? (ad.add j) = some u)
    (hroom : bs.length + m ≤ 140737488355328) :
    Calls Tryz.prog 142 #[.pointer (some ⟨o, 0, none⟩), .slice (some ad) m cm] w fun e w' => e = .returned (.tuple #[]) ∧ outAt w' B o (bs ++ new) ∧ Below B w w' ∧ Fr w w' := by
  obtain ⟨i0, hi, hz0, hz1, hz2⟩ := info_parts info_u8
  have o0 := cells_of ho 0 _ rfl
  have o1 := cells_of ho 1 _ rfl
  have q0 := cells_of hq 0 _ rfl
  have hqo : q ≠ o := by
    intro h
    subst h
    rw [ho] at hq
    simp at hq
  have hoq : o ≠ q := hqo.symm
  have Ho := Lib.hid ho
  have Hq := Lib.hid hq
  have Hown := Lib.hid hown
  have Hsrc := Lib.hid hsrc
  have Hm := Lib.hid hm
  clear ho hq hown hsrc hm
  go_enter Tryz.func142, Tryz.ntmps142
  go_wp2
  go_quiet (fail)
  go_wp2
  go_region_law (
    (refine step_append_own rfl (.tmp 52) (.tmp 53) 127 rfl B 5 i0 (.int .u8 0) 1 1 Tryz.underlying127 hi hz0 hz1 hz2 rfl (by decide) (.slice A bs.length c) bs.length (Lib.byteCells bs) (by simp [Act.eval]) (by exact Hown.out) ad m cm (Lib.byteCells new) (by simp [Act.eval]) (by simp [Lib.byteCells, Hm.out]) (by exact Hsrc.out) (byte_one new) (by unfold maxLen; omega) (by omega) (by exact hB) ?_
     intro A' c' w' hown' hg'
     have hO := Lib.hid (grown_block hg' (by exact Hown.out) (by exact Ho.out) (by decide))
     have hQ := Lib.hid (grown_block hg' (by exact Hown.out) (by exact Hq.out) (by decide))
     have p0 := cells_of hO.out 0 _ rfl
     have p1 := cells_of hO.out 1 _ rfl
     have r0 := cells_of hQ.out 0 _ rfl
     have r1 := free_of hQ.out 0
     have r2 := free_of hO.out 1
     have Hown' := Lib.hid hown'
     have Hg' := Lib.hid hg'
     clear hown' hg'))
  all_goals go_wp2
  all_goals go_end0
  all_goals exact ⟨rfl, put_close (w := w) hBo hBq hB Hown.out hO.out hQ.out Hown'.out Hg'.out Hm.out⟩

set_option maxHeartbeats 1000000 in
/-- Bytes put into an Out that was not written to. -/
theorem put_first_fr {w : World} {B o : Nat} (hBo : B ≤ o) (hB : B ≤ w.heap.size)
    (ho : w.heap[o]? = some (.cells #[.pointer none, .int .i64 0] 157 (0, 0)))
    (ad : Addr) (hne : ad.block ≠ o) (m cm : Nat) (new : List UInt8) (hm : new.length = m) (hsrc : ∀ j u, (Lib.byteCells new)[j]? = some u → w.cell? (ad.add j) = some u)
    (hroom : m ≤ 140737488355328) :
    Calls Tryz.prog 142 #[.pointer (some ⟨o, 0, none⟩), .slice (some ad) m cm] w fun e w' => e = .returned (.tuple #[]) ∧ outAt w' B o new ∧ Below B w w' ∧ Fr w w' := by
  obtain ⟨i0, hi, hz0, hz1, hz2⟩ := info_parts info_u8
  have o0 := cells_of ho 0 _ rfl
  have o1 := cells_of ho 1 _ rfl
  have f0 := free_of ho 0
  have hlt : o < w.heap.size := (Array.getElem?_eq_some_iff.1 ho).1
  have Ho := Lib.hid ho
  have Hsrc := Lib.hid hsrc
  have Hm := Lib.hid hm
  clear ho hsrc hm
  go_enter Tryz.func142, Tryz.ntmps142
  go_wp2
  generalize hW : ((w.setCell ⟨o, 0, none⟩ (.pointer (some ⟨w.heap.size, 0, none⟩))).alloc (.cells #[.slice none 0 0] 127)) = W0
  have g1 : W0.heap[o]? = some (.cells #[.pointer (some ⟨w.heap.size, 0, none⟩), .int .i64 0] 157 (0, 0)) := by
    rw [← hW, Below.heap_alloc _ _ _ (by simpa using hlt), heap_set Ho.out 0 _]
    simp
  have g2 : W0.heap[w.heap.size]? = some (.cells #[.slice none 0 0] 127 (0, 0)) := by
    rw [← hW]
    have := heap_alloc_new (w.setCell ⟨o, 0, none⟩ (.pointer (some ⟨w.heap.size, 0, none⟩))) (.cells #[.slice none 0 0] 127)
    simpa using this
  have g3 : Below B w W0 := by
    rw [← hW]
    exact ((Below.refl B w).setCell hBo _).alloc (by simpa using hB) _
  have g7 : Fr w W0 := by
    rw [← hW]
    exact ((Fr.refl w).set Ho.out (.inl rfl) 0 _).alloc _
  have g4 : ∀ j u, (Lib.byteCells new)[j]? = some u → W0.cell? (ad.add j) = some u := by
    intro j u hu
    have h1 := Hsrc.out j u hu
    have h2 := World.block_lt_of_cell? w _ h1
    have hb : (ad.add j).block = ad.block := by unfold Addr.add; split <;> rfl
    rw [← h1, ← hW]
    refine World.cell?_of_block ?_
    rw [Below.heap_alloc _ _ _ (by simpa using h2), Below.heap_setCell _ _ _ _ (by rw [hb]; exact hne)]
  have g5 : B ≤ W0.heap.size := by rw [← hW]; simp; omega
  have g6 : B ≤ w.heap.size := hB
  clear hW Hsrc Ho o0 o1 f0 hlt
  generalize w.heap.size = q at *
  have hqo : q ≠ o := by
    intro h
    subst h
    rw [g1] at g2
    simp at g2
  have hoq : o ≠ q := hqo.symm
  have Ho := Lib.hid g1
  have Hq := Lib.hid g2
  have Hown := Lib.hid (World.ownsRow_nil W0 B 5 1)
  have Hsrc := Lib.hid g4
  have o0 := cells_of g1 0 _ rfl
  have o1 := cells_of g1 1 _ rfl
  have q0 := cells_of g2 0 _ rfl
  clear g1 g2 g4
  go_quiet (fail)
  go_wp2
  go_region_law (
    (refine step_append_own rfl (.tmp 52) (.tmp 53) 127 rfl B 5 i0 (.int .u8 0) 1 1 Tryz.underlying127 hi hz0 hz1 hz2 rfl (by decide) (.slice none 0 0) 0 [] (by simp [Act.eval]) (by exact Hown.out) ad m cm (Lib.byteCells new) (by simp [Act.eval]) (by simp [Lib.byteCells, Hm.out]) (by exact Hsrc.out) (byte_one new) (by unfold maxLen; omega) (by omega) (by exact g5) ?_
     intro A' c' w' hown' hg'
     have hO := Lib.hid (grown_block hg' (by exact Hown.out) (by exact Ho.out) (by decide))
     have hQ := Lib.hid (grown_block hg' (by exact Hown.out) (by exact Hq.out) (by decide))
     have p0 := cells_of hO.out 0 _ rfl
     have p1 := cells_of hO.out 1 _ rfl
     have r0 := cells_of hQ.out 0 _ rfl
     have r1 := free_of hQ.out 0
     have r2 := free_of hO.out 1
     have Hown' := Lib.hid hown'
     have Hg' := Lib.hid hg'
     clear hown' hg'))
  all_goals go_wp2
  all_goals go_end0
  all_goals
    have h := put_close (w := W0) (bs := []) (m := m) hBo hB g5 Hown.out hO.out hQ.out Hown'.out Hg'.out Hm.out
    simp only [List.length_nil, Nat.zero_add, List.nil_append, Int.natCast_zero, Int.zero_add] at h
    exact ⟨rfl, h.1, g3.trans h.2.1, g7.trans h.2.2⟩

/-- Bytes put behind those of an Out. -/
theorem put_any_fr {w : World} {B o : Nat} {bs : List UInt8} (hout : outAt w B o bs) (hB : B ≤ w.heap.size)
    (ad : Addr) (hne : ad.block ≠ o) (m cm : Nat) (new : List UInt8) (hm : new.length = m) (hsrc : ∀ j u, (Lib.byteCells new)[j]? = some u → w.cell? (ad.add j) = some u)
    (hroom : bs.length + m ≤ 140737488355328) :
    Calls Tryz.prog 142 #[.pointer (some ⟨o, 0, none⟩), .slice (some ad) m cm] w fun e w' => e = .returned (.tuple #[]) ∧ outAt w' B o (bs ++ new) ∧ Below B w w' ∧ Fr w w' := by
  obtain ⟨hBo, ⟨ho, rfl⟩ | ⟨q, A, c, hBq, ho, hq, hown⟩⟩ := hout
  · exact put_first_fr hBo hB ho ad hne m cm new hm hsrc (by simpa using hroom)
  · exact put_more_fr hBo hBq hB ho hq hown ad m cm new hm hsrc hroom

theorem put_any {w : World} {B o : Nat} {bs : List UInt8} (hout : outAt w B o bs) (hB : B ≤ w.heap.size)
    (ad : Addr) (hne : ad.block ≠ o) (m cm : Nat) (new : List UInt8) (hm : new.length = m) (hsrc : ∀ j u, (Lib.byteCells new)[j]? = some u → w.cell? (ad.add j) = some u)
    (hroom : bs.length + m ≤ 140737488355328) :
    Calls Tryz.prog 142 #[.pointer (some ⟨o, 0, none⟩), .slice (some ad) m cm] w fun e w' => e = .returned (.tuple #[]) ∧ outAt w' B o (bs ++ new) ∧ Below B w w' :=
  (put_any_fr hout hB ad hne m cm new hm hsrc hroom).mono fun _ _ ⟨h1, h2, h3, _⟩ => ⟨h1, h2, h3⟩

set_option maxHeartbeats 400000 in
theorem put_nil (a : Addr) (l c : Nat) (w : World) : Calls Tryz.prog 142 #[.pointer none, .slice (some a) l c] w fun e w' => e = .returned (.tuple #[]) ∧ w = w' := by
  go_enter Tryz.func142, Tryz.ntmps142
  go_wp2
  refine bodyPost_ret (results_none rfl _ _ _) rfl ?_
  exact ⟨rfl, rfl⟩
end Go.Proofs.YtiehcplepneajaaGreatDoor

/-
  The items of the statements as plain data: what each is written as, and what is read for it. No program.
-/
namespace Go.Proofs.YtiehcplepneajaaGreatDoor.Pk

structure It where
  d : Nat
  n : Nat
  i : Int
  s : ByteArray
  b : Nat
  m : Int

def It.zero : It := ⟨0, 0, 0, ⟨#[]⟩, 0, 0⟩

/-- Each field in its range. -/
structure It.Ok (a : It) : Prop where
  d : a.d < 256
  n : a.n < 2 ^ 64
  i : -9223372036854775808 ≤ a.i ∧ a.i ≤ 9223372036854775807
  s : a.s.size ≤ 140737488351232
  b : a.b < 256
  m : -9223372036854775808 ≤ a.m ∧ a.m ≤ 9223372036854775807

/-- An integer's number. -/
def zig (i : Int) : Nat := if 0 ≤ i then (2 * i).toNat else (-2 * i - 1).toNat
theorem zig_lt {i : Int} (h : -9223372036854775808 ≤ i ∧ i ≤ 9223372036854775807) : zig i < 2 ^ 64 := by unfold zig; split <;> omega
theorem zag_zig (i : Int) : zag (zig i) = i := by unfold zag zig; split <;> split <;> omega

/-- An item's bytes. -/
def encI (a : It) : List UInt8 :=
  if a.d = 0 then enc a.n else if a.d = 1 then enc (zig a.i) else if a.d = 2 then enc a.s.size ++ a.s.data.toList else if a.d = 3 then [UInt8.ofNat a.b] else []
def encs (l : List It) : List UInt8 := l.flatMap encI
def total (l : List It) : Nat := (l.map fun a => a.s.size).sum

theorem total_cons (a : It) (l : List It) : total (a :: l) = a.s.size + total l := by simp [total]
theorem encs_cons (a : It) (l : List It) : encs (a :: l) = encI a ++ encs l := by simp [encs]
theorem encs_append (l m : List It) : encs (l ++ m) = encs l ++ encs m := by simp [encs]
theorem total_append (l m : List It) : total (l ++ m) = total l + total m := by simp [total]

theorem enc_len {n : Nat} (hn : n < 2 ^ 64) : (enc n).length ≤ 10 := by
  have hen := dec_enc n 0 0 [] (by simpa using hn) (by omega) (by omega)
  have := (dec_bd (enc n ++ [])).2.1
  rw [hen] at this
  simpa using this

/-- A number has at most k bytes just if it is below 2 to the 7 k. -/
theorem enc_size (n : Nat) : ∀ k, 1 ≤ k → ((enc n).length ≤ k ↔ n < 2 ^ (7 * k)) := by
  induction n using Nat.strongRecOn with
  | ind n ih =>
    intro k hk
    by_cases hn : 127 < n
    · rw [enc_big hn, List.length_cons]
      obtain ⟨j, rfl⟩ : ∃ j, k = j + 1 := ⟨k - 1, by omega⟩
      rcases Nat.eq_zero_or_pos j with rfl | hj
      · have := List.length_pos_iff.2 (enc_ne (n / 128))
        have e : 2 ^ (7 * (0 + 1)) = 128 := rfl
        rw [e]
        omega
      · have h := ih (n / 128) (by omega) j hj
        rw [pow_step]
        generalize 2 ^ (7 * j) = P at *
        omega
    · rw [enc_small hn]
      have h1 := pow_le hk
      have e : 2 ^ (7 * 1) = 128 := rfl
      simp
      omega

theorem enc_pair (j : Nat) : (enc (2 * j)).length = (enc (2 * j + 1)).length := by
  have ha := List.length_pos_iff.2 (enc_ne (2 * j))
  have hb := List.length_pos_iff.2 (enc_ne (2 * j + 1))
  have h : ∀ k, 1 ≤ k → ((enc (2 * j)).length ≤ k ↔ (enc (2 * j + 1)).length ≤ k) := by
    intro k hk
    rw [enc_size _ k hk, enc_size _ k hk]
    obtain ⟨i, rfl⟩ : ∃ i, k = i + 1 := ⟨k - 1, by omega⟩
    rw [pow_step]
    generalize 2 ^ (7 * i) = P
    omega
  have h1 := (h _ ha).1 (Nat.le_refl _)
  have h2 := (h _ hb).2 (Nat.le_refl _)
  omega
theorem zig_pair (i : Int) : (enc (zig i)).length = (enc (zig (-1 - i))).length := by
  unfold zig
  by_cases h : 0 ≤ i
  · rw [if_pos h, if_neg (by omega), show (2 * i).toNat = 2 * i.toNat from by omega, show (-2 * (-1 - i) - 1).toNat = 2 * i.toNat + 1 from by omega]
    exact enc_pair _
  · rw [if_neg h, if_pos (by omega), show (-2 * i - 1).toNat = 2 * (-1 - i).toNat + 1 from by omega, show (2 * (-1 - i)).toNat = 2 * (-1 - i).toNat from by omega]
    exact (enc_pair _).symm

theorem encI_len {a : It} (h : a.Ok) : (encI a).length ≤ 10 + a.s.size := by
  unfold encI
  have h1 := enc_len h.n
  have h2 := enc_len (zig_lt h.i)
  have h3 := h.s
  have h4 := enc_len (n := a.s.size) (by omega)
  split
  · omega
  · split
    · omega
    · split
      · rw [List.length_append]; simp; omega
      · split <;> simp; omega

theorem encs_len {l : List It} (h : ∀ a ∈ l, a.Ok) : (encs l).length ≤ 10 * l.length + total l := by
  induction l with
  | nil => simp [encs]
  | cons a l ih =>
    have h1 := encI_len (h a (by simp))
    have h2 := ih fun b hb => h b (by simp [hb])
    rw [encs_cons, total_cons, List.length_append, List.length_cons]
    omega

/-- Are there more items than the statements go through? -/
def great (l : List It) : Bool := decide (200 < l.length) || l.any (fun a => decide (30000 < a.s.size)) || decide (30000 < total l)
theorem great_len {l : List It} (h : 200 < l.length) : great l = true := by simp [great, h]
theorem great_one {l : List It} {k : Nat} (hk : k < l.length) (h : 30000 < l[k].s.size) : great l = true := by
  have : l.any (fun a => decide (30000 < a.s.size)) = true := List.any_eq_true.2 ⟨l[k], List.getElem_mem hk, by simpa using h⟩
  simp [great, this]
theorem great_sum {l : List It} (h : 30000 < total l) : great l = true := by simp [great, h]
theorem not_great {l : List It} (h : great l = false) : l.length ≤ 200 ∧ total l ≤ 30000 := by
  simp [great] at h
  omega
theorem great_false {l : List It} (h1 : l.length ≤ 200) (h2 : ∀ k (hk : k < l.length), l[k].s.size ≤ 30000) (h3 : total l ≤ 30000) : great l = false := by
  have : l.any (fun a => decide (30000 < a.s.size)) = false := by
    rw [List.any_eq_false]
    intro a ha
    obtain ⟨k, hk, rfl⟩ := List.getElem_of_mem ha
    have := h2 k hk
    simp; omega
  simp [great, this, h1, h3]

theorem total_take {l : List It} {k : Nat} (h : k < l.length) : total (l.take (k + 1)) = total (l.take k) + l[k].s.size := by
  rw [List.take_succ_eq_append_getElem h, total_append]
  simp [total]
theorem encs_take {l : List It} {k : Nat} (h : k < l.length) : encs (l.take (k + 1)) = encs (l.take k) ++ encI l[k] := by
  rw [List.take_succ_eq_append_getElem h, encs_append]
  simp [encs]
theorem total_take_le (l : List It) (k : Nat) : total (l.take k) ≤ total l := by
  have h := total_append (l.take k) (l.drop k)
  rw [List.take_append_drop] at h
  omega

end Go.Proofs.YtiehcplepneajaaGreatDoor.Pk

/-
  What Num, Int, Text, Byte and String of a pack Out do.
-/
namespace Go.Proofs.YtiehcplepneajaaGreatDoor
open Go.RowKit Pk

theorem outAt.lt {w : World} {B o : Nat} {bs : List UInt8} (h : outAt w B o bs) : o < w.heap.size := by
  rcases h.2 with ⟨h, _⟩ | ⟨q, A, c, _, h, _⟩ <;> exact (Array.getElem?_eq_some_iff.1 h).1

/-- A world in which nothing of the Out's has turned. -/
theorem outAt.kept {w w' : World} {B o : Nat} {bs : List UInt8} (h : outAt w B o bs) (hk : Below w.heap.size w w') : outAt w' B o bs := by
  obtain ⟨hBo, ⟨ho, rfl⟩ | ⟨q, A, c, hBq, ho, hq, hown⟩⟩ := h
  · exact ⟨hBo, .inl ⟨(hk.block o (Array.getElem?_eq_some_iff.1 ho).1).trans ho, rfl⟩⟩
  · exact ⟨hBo, .inr ⟨q, A, c, hBq, (hk.block o (Array.getElem?_eq_some_iff.1 ho).1).trans ho, (hk.block q (Array.getElem?_eq_some_iff.1 hq).1).trans hq,
      hown.kept (row := none) ⟨hk.os, hk.tape, hk.output, hk.size, fun k hk' _ => hk.block k hk'⟩ (by cases (Value.slice A bs.length c).ownBlock <;> simp)⟩⟩

theorem or128 : ∀ m, m < 256 → m ||| 128 = m % 128 + 128 := by decide +kernel

/-- The digit that goes on. -/
theorem big_digit (k : Nat) : bits .or .u8 ((k : Int) % 256) 128 = ((UInt8.ofNat (k % 128 + 128)).toNat : Int) := by
  rw [ofNat_toNat (by omega)]
  have h := u8_or_nat (k % 256) 128 (by omega) (by decide)
  rw [or128 _ (by omega)] at h
  rw [show (k : Int) % 256 = ((k % 256 : Nat) : Int) from by omega, show k % 128 = k % 256 % 128 from by omega]
  exact h

/-- One byte that lies in a block of its own. -/
theorem put_one_fr (x : UInt8) {w : World} {B o : Nat} {bs : List UInt8} (hout : outAt w B o bs) (hB : B ≤ w.heap.size) (hroom : bs.length + 1 ≤ 140737488355328) (v : Int) (hv : v = x.toNat) :
    Calls Tryz.prog 142 #[.pointer (some ⟨o, 0, none⟩), .slice (some ⟨w.heap.size, 0, none⟩) 1 1] (w.alloc (.cells #[.int .u8 v] 5)) fun e w' =>
      e = .returned (.tuple #[]) ∧ outAt w' B o (bs ++ [x]) ∧ Below B w w' ∧ Fr w w' := by
  subst hv
  have hb : Below w.heap.size w (w.alloc (.cells #[.int .u8 (x.toNat : Int)] 5)) := (Below.refl _ w).alloc (Nat.le_refl _) _
  refine (put_any_fr (hout.kept hb) (by simp; omega) ⟨w.heap.size, 0, none⟩ (by have := hout.lt; exact fun e => by simp only at e; omega) 1 1 [x] rfl ?_ hroom).mono ?_
  · intro j u hu
    cases j with
    | zero =>
      simp [Lib.byteCells] at hu
      rw [← hu]
      exact cells_of (heap_alloc_new w _) 0 _ rfl
    | succ j => simp [Lib.byteCells] at hu
  · rintro e w' ⟨rfl, h1, h2, h3⟩
    exact ⟨rfl, h1, (hb.mono hB).trans h2, ((Fr.refl w).alloc _).trans h3⟩

set_option maxHeartbeats 1000000 in
theorem oNum_any_fr (n : Nat) (hn : n < 2 ^ 64) {w : World} {B o : Nat} {bs : List UInt8} (hout : outAt w B o bs) (hB : B ≤ w.heap.size) (hroom : bs.length + 10 ≤ 140737488355328) :
    Calls Tryz.prog 107 #[.pointer (some ⟨o, 0, none⟩), .int .u64 n] w fun e w' => e = .returned (.tuple #[]) ∧ outAt w' B o (bs ++ enc n) ∧ Below B w w' ∧ Fr w w' := by
  have hlen := enc_len hn
  go_enter Tryz.func107, Tryz.ntmps107
  go_wp2
  go_loopw [1] (fun x wr => ∃ (k : Nat) (done : List UInt8), k ≤ n ∧ x = .int .u64 k ∧ outAt wr B o (bs ++ done) ∧ Below B w wr ∧ Fr w wr ∧ B ≤ wr.heap.size ∧ Hid (done ++ enc k = enc n)) (fun x _ => (intOf x).toNat)
  case atStart => exact ⟨n, [], Nat.le_refl _, rfl, by simpa using hout, Below.refl _ _, Fr.refl _, hB, rfl⟩
  case round =>
    obtain ⟨k, done, hk, rfl, hout', hbe, hfe, hB', hd⟩ := hrel
    have hl : done.length + (enc k).length ≤ 10 := by
      have := congrArg List.length hd.out
      rw [List.length_append] at this
      omega
    by_cases hgt : 127 < k
    · have hgt' : (127 : Int) < k := by omega
      have hroom' : (bs ++ done).length + 1 ≤ 140737488355328 := by rw [List.length_append]; have := List.length_pos_iff.2 (enc_ne k); omega
      have hd2 := hd.out
      rw [enc_big hgt] at hd2
      have HD := Lib.hid hd2
      clear hd hd2 hl
      go_wp2_with fail
      refine (put_one_fr (UInt8.ofNat (k % 128 + 128)) hout' hB' hroom' _ (big_digit k)).mono ?_
      rintro e w1 ⟨rfl, h1, h2, h3⟩
      go_wp2
      go_roundw
      case rel => exact ⟨k / 128, done ++ [UInt8.ofNat (k % 128 + 128)], by omega, by go_num, by rw [← List.append_assoc]; exact h1, hbe.trans h2, hfe.trans h3, Nat.le_trans hB' h2.size, by rw [List.append_assoc]; exact HD.out⟩
      case measure => simp [intOf]; omega
    · have hgt' : ¬ (127 : Int) < k := by omega
      have hroom' : (bs ++ done).length + 1 ≤ 140737488355328 := by rw [List.length_append]; have := List.length_pos_iff.2 (enc_ne k); omega
      have hd2 := hd.out
      rw [enc_small hgt] at hd2
      have HD := Lib.hid hd2
      clear hd hd2 hl
      go_wp2_with fail
      refine (put_one_fr (UInt8.ofNat k) hout' hB' hroom' _ (by rw [ofNat_toNat (by omega)])).mono ?_
      rintro e w1 ⟨rfl, h1, h2, h3⟩
      go_wp2
      go_end0
      rw [← HD.out]
      exact ⟨rfl, by rw [← List.append_assoc]; exact h1, hbe.trans h2, hfe.trans h3⟩

theorem oNum_any (n : Nat) (hn : n < 2 ^ 64) {w : World} {B o : Nat} {bs : List UInt8} (hout : outAt w B o bs) (hB : B ≤ w.heap.size) (hroom : bs.length + 10 ≤ 140737488355328) :
    Calls Tryz.prog 107 #[.pointer (some ⟨o, 0, none⟩), .int .u64 n] w fun e w' => e = .returned (.tuple #[]) ∧ outAt w' B o (bs ++ enc n) ∧ Below B w w' :=
  (oNum_any_fr n hn hout hB hroom).mono fun _ _ ⟨h1, h2, h3, _⟩ => ⟨h1, h2, h3⟩

theorem u64_xor_zero (a : Nat) (ha : a < 18446744073709551616) : bits .xor .u64 (a : Int) 0 = (a : Int) := by
  have h := bits_xor_u64_nat a 0 ha (by decide)
  simpa using h
theorem u64_xor_ones (a : Nat) (ha : a < 18446744073709551616) : bits .xor .u64 (a : Int) 18446744073709551615 = 18446744073709551615 - (a : Int) := by
  show IntKind.u64.wrap ((BitVec.ofInt 64 (a : Int) ^^^ BitVec.ofInt 64 18446744073709551615).toNat : Int) = _
  have h1 : BitVec.ofInt 64 18446744073709551615 = BitVec.allOnes 64 := by decide
  have h2 : (BitVec.ofInt 64 (a : Int)).toNat = a := by
    rw [BitVec.ofInt_natCast, BitVec.toNat_ofNat]; exact Nat.mod_eq_of_lt (by omega)
  rw [h1, BitVec.xor_allOnes, BitVec.toNat_not, h2, IntKind.wrap_u64]
  omega
theorem zig_xor {i : Int} (h : -9223372036854775808 ≤ i ∧ i ≤ 9223372036854775807) :
    bits .xor .u64 (IntKind.u64.wrap (IntKind.u64.wrap i * 2)) (IntKind.u64.wrap (i / 9223372036854775808)) = (zig i : Int) := by
  simp only [IntKind.wrap_u64]
  unfold zig
  by_cases h0 : 0 ≤ i
  · rw [if_pos h0]
    rw [show i % 18446744073709551616 * 2 % 18446744073709551616 = ((2 * i).toNat : Int) from by omega, show i / 9223372036854775808 % 18446744073709551616 = 0 from by omega]
    exact u64_xor_zero _ (by omega)
  · rw [if_neg h0]
    rw [show i % 18446744073709551616 * 2 % 18446744073709551616 = ((2 * i + 18446744073709551616).toNat : Int) from by omega, show i / 9223372036854775808 % 18446744073709551616 = 18446744073709551615 from by omega]
    rw [u64_xor_ones _ (by omega)]
    omega

/-- A text's bytes, that lie in a block of their own. -/
theorem put_bytes_fr (s : ByteArray) (cap : Nat) {w : World} {B o : Nat} {bs : List UInt8} (hout : outAt w B o bs) (hB : B ≤ w.heap.size) (hroom : bs.length + s.size ≤ 140737488355328) :
    Calls Tryz.prog 142 #[.pointer (some ⟨o, 0, none⟩), .slice (some ⟨w.heap.size, 0, none⟩) s.size cap] (w.drew.alloc (.cells (bytesRow s cap) 5 ((bytesRow s cap).size, (bytesRow s cap).size + 1))) fun e w' =>
      e = .returned (.tuple #[]) ∧ outAt w' B o (bs ++ s.data.toList) ∧ Below B w w' ∧ Fr w w' := by
  have hb : Below w.heap.size w (w.drew.alloc (.cells (bytesRow s cap) 5 ((bytesRow s cap).size, (bytesRow s cap).size + 1))) := ((Below.refl _ w).drew).alloc (Nat.le_refl _) _
  refine (put_any_fr (hout.kept hb) (by simp; omega) ⟨w.heap.size, 0, none⟩ (by have := hout.lt; exact fun e => by simp only at e; omega) s.size cap s.data.toList (by simp) ?_ hroom).mono ?_
  · intro j u hu
    have hj : j < s.data.size := by
      have := (List.getElem?_eq_some_iff.1 hu).1
      simpa [Lib.byteCells] using this
    have h1 := bytesRow_at s cap j hj
    have h2 : u = .int .u8 (s.data[j].toNat : Int) := by
      simp [Lib.byteCells] at hu
      obtain ⟨x, hx, hv⟩ := hu
      rw [Array.getElem?_eq_getElem hj] at hx
      rw [← hv, ← Option.some.inj hx]
    rw [h2, ← h1]
    have hnew : (w.drew.alloc (.cells (bytesRow s cap) 5 ((bytesRow s cap).size, (bytesRow s cap).size + 1))).heap[w.heap.size]? = _ := heap_alloc_new w.drew _
    rw [Addr.add_lit]
    simp only [World.cell?, hnew, Nat.zero_add]
    rfl
  · rintro e w' ⟨rfl, h1, h2, h3⟩
    exact ⟨rfl, h1, (hb.mono hB).trans h2, (((Fr.refl w) : Fr w w.drew).alloc _).trans h3⟩

set_option maxHeartbeats 1000000 in
theorem oText_any_fr (s : ByteArray) {w : World} {B o : Nat} {bs : List UInt8} (hout : outAt w B o bs) (hB : B ≤ w.heap.size) (hroom : bs.length + 10 + s.size ≤ 140737488355328) :
    Calls Tryz.prog 108 #[.pointer (some ⟨o, 0, none⟩), .string s] w fun e w' => e = .returned (.tuple #[]) ∧ outAt w' B o (bs ++ (enc s.size ++ s.data.toList)) ∧ Below B w w' ∧ Fr w w' := by
  go_enter Tryz.func108, Tryz.ntmps108
  go_wp2_with fail
  refine (oNum_any_fr s.size (by omega) hout hB (by omega)).mono ?_
  rintro e w1 ⟨rfl, h1, h2, f2⟩
  have hcv := run_bytes_of_string (P := Tryz.prog) w1 9 127 5 s Tryz.underlying9 Tryz.underlying127 Tryz.underlying5
  go_wp2_with fail
  clear hcv
  refine (put_bytes_fr s _ h1 (Nat.le_trans hB h2.size) (by rw [List.length_append]; have := enc_len (n := s.size) (by omega); omega)).mono ?_
  rintro e w2 ⟨rfl, h3, h4, f4⟩
  go_wp2
  go_end0
  exact ⟨rfl, by rw [← List.append_assoc]; exact h3, h2.trans h4, f2.trans f4⟩

theorem oText_any (s : ByteArray) {w : World} {B o : Nat} {bs : List UInt8} (hout : outAt w B o bs) (hB : B ≤ w.heap.size) (hroom : bs.length + 10 + s.size ≤ 140737488355328) :
    Calls Tryz.prog 108 #[.pointer (some ⟨o, 0, none⟩), .string s] w fun e w' => e = .returned (.tuple #[]) ∧ outAt w' B o (bs ++ (enc s.size ++ s.data.toList)) ∧ Below B w w' :=
  (oText_any_fr s hout hB hroom).mono fun _ _ ⟨h1, h2, h3, _⟩ => ⟨h1, h2, h3⟩

/-- The bytes of a row that is owned, as a text. -/
theorem out_back {w : World} {B : Nat} {A : Option Addr} {c : Nat} {bs : List UInt8} (hown : w.ownsRow B 5 1 (.slice A bs.length c) bs.length (Lib.byteCells bs)) (n : Nat) (c' : Nat) :
    (convert 127 9 (.slice A bs.length c')).run Tryz.prog (w.drewN n) = .ok (.string ⟨bs.toArray⟩) (w.drewN n) := by
  rcases hown.2 with ⟨hv, hn⟩ | ⟨g, cap, cur, hv, hBg, hh, hn, hcap, hcs, htk⟩
  · simp only [Value.slice.injEq] at hv
    obtain ⟨rfl, _, _⟩ := hv
    have hb : bs = [] := List.eq_nil_of_length_eq_zero hn
    subst hb
    have h := run_convert_bytes_nil (P := Tryz.prog) (w := w.drewN n) 127 5 Tryz.underlying127 Tryz.underlying5 0 c' 9 Tryz.underlying9
    exact h
  · simp only [Value.slice.injEq] at hv
    obtain ⟨rfl, _, rfl⟩ := hv
    refine run_convert_bytes_back (w.drewN n) 127 9 5 _ c' bs Tryz.underlying127 Tryz.underlying5 Tryz.underlying9 ?_
    intro j hj
    exact hown.cells (g := g) rfl j _ (by simp [Lib.byteCells, hj])

set_option maxHeartbeats 1000000 in
theorem oString_any {w : World} {B o : Nat} {bs : List UInt8} (hout : outAt w B o bs) (hlim : bs.length ≤ 140737488355328) :
    Calls Tryz.prog 109 #[.pointer (some ⟨o, 0, none⟩)] w fun e w' => e = .returned (.string ⟨bs.toArray⟩) ∧ ∃ n, w' = w.drewN n := by
  obtain ⟨hBo, ⟨ho, rfl⟩ | ⟨q, A, c, hBq, ho, hq, hown⟩⟩ := hout
  · have o0 := cells_of ho 0 _ rfl
    clear ho
    go_enter Tryz.func109, Tryz.ntmps109
    go_wp2
    go_ret
    exact ⟨rfl, 0, rfl⟩
  · have o0 := cells_of ho 0 _ rfl
    have o1 := cells_of ho 1 _ rfl
    have q0 := cells_of hq 0 _ rfl
    go_enter Tryz.func109, Tryz.ntmps109
    have hcv := out_back hown
    have hcap : bs.length ≤ c := by
      rcases hown.2 with ⟨hv, hn⟩ | ⟨g, cap, cur, hv, hBg, hh, hn, hcap, hcs, htk⟩
      · omega
      · simp only [Value.slice.injEq] at hv
        omega
    have hcap1 : (bs.length : Int) ≤ (c : Int) := by omega
    have hcap0 : (0 : Int) ≤ (bs.length : Int) := by omega
    go_wp2
    go_quiet (fail)
    go_wp2
    go_ret
    exact ⟨rfl, _, rfl⟩

theorem oNum_nil (n : Nat) (w : World) : Calls Tryz.prog 107 #[.pointer none, .int .u64 n] w fun e w' => e = .returned (.tuple #[]) ∧ Below w.heap.size w w' := by
  go_enter Tryz.func107, Tryz.ntmps107
  go_wp2
  go_loopw [1] (fun x wr => ∃ (k : Nat), x = .int .u64 k ∧ Below w.heap.size w wr) (fun x _ => (intOf x).toNat)
  case atStart => exact ⟨n, rfl, Below.refl _ _⟩
  case round =>
    obtain ⟨k, rfl, hbe⟩ := hrel
    by_cases hgt : 127 < k
    · have hgt' : (127 : Int) < k := by omega
      go_wp2_with fail
      refine (put_nil _ _ _ _).mono ?_
      rintro e w1 ⟨rfl, rfl⟩
      go_wp2
      go_roundw
      case rel => exact ⟨k / 128, by go_num, hbe.alloc hbe.size _⟩
      case measure => simp [intOf]; omega
    · have hgt' : ¬ (127 : Int) < k := by omega
      go_wp2_with fail
      refine (put_nil _ _ _ _).mono ?_
      rintro e w1 ⟨rfl, rfl⟩
      go_wp2
      go_end0
      exact ⟨rfl, hbe.alloc hbe.size _⟩

theorem oText_nil (s : ByteArray) (hs : s.size ≤ 140737488355328) (w : World) : Calls Tryz.prog 108 #[.pointer none, .string s] w fun e w' => e = .returned (.tuple #[]) ∧ Below w.heap.size w w' := by
  go_enter Tryz.func108, Tryz.ntmps108
  go_wp2_with fail
  refine (oNum_nil _ _).mono ?_
  rintro e w1 ⟨rfl, h1⟩
  have hcv := run_bytes_of_string (P := Tryz.prog) w1 9 127 5 s Tryz.underlying9 Tryz.underlying127 Tryz.underlying5
  go_wp2_with fail
  clear hcv
  refine (put_nil _ _ _ _).mono ?_
  rintro e w2 ⟨rfl, rfl⟩
  go_wp2
  go_end0
  exact ⟨rfl, (h1.drew).alloc h1.size _⟩

theorem oString_nil (w : World) : Calls Tryz.prog 109 #[.pointer none] w fun e w' => e = .returned (.string ⟨#[]⟩) ∧ w = w' := by
  go_enter Tryz.func109, Tryz.ntmps109
  go_wp2
  go_ret
  exact ⟨rfl, rfl⟩
end Go.Proofs.YtiehcplepneajaaGreatDoor
