/-
  DiskSound: what is closed is sound; a burst turns it.
-/
import Derived.Test.YtleknlkbaeognaaDkLook
import Derived.Test.YtleknlkbaeognaaDkWrite
import Derived.Test.YtleknlkbaeognaaRowB
namespace Go.Proofs.Ytleknlkbaeognaa
open Go.RowKit
namespace Dk
theorem zero60 : (Try.prog.info? 74).map (fun i => (i.zero, i.size)) = some (some (.agg (Sm.rowB 60 [])), 60) := by kernel_rfl
/-- 60 bytes out of a text: what lacks is noughts. -/
def sixty (l : List UInt8) : List UInt8 := l.take 60 ++ List.replicate (60 - l.length) 0
theorem sixty_length (l : List UInt8) : (sixty l).length = 60 := by simp [sixty]; omega
set_option maxRecDepth 100000 in
theorem copy_body {w : World} {N : Nat} (s : ByteArray) (h : w.heap[N]? = some (.cells (Sm.rowB 60 []) 74 (0, 0))) :
    ∃ n : Int, (Builtin.copy_ #[32, 9] 3 #[.slice (some ⟨N, 0, none⟩) 60 60, .string s]).run Try.prog w = .ok (.int .i64 n) (w.setRow N (Lib.byteCells (sixty s.data.toList)).toArray) := by
  have hz : (Sm.rowB 60 []).size = 60 := by simp [Sm.rowB, Lib.byteCells]
  have hzl : (Sm.rowB 60 []).toList = List.replicate 60 (.int .u8 0) := by simp [Sm.rowB, Lib.byteCells]
  by_cases hle : s.size ≤ 60
  · have r := Lib.run_copy_row_string (P := Try.prog) w 32 9 3 5 N 0 60 60 s _ 74 Try.underlying32 info_u8s h hle (by omega)
    refine ⟨s.size, ?_⟩
    rw [r, List.take_zero, List.nil_append, hzl, List.drop_replicate, Nat.zero_add]
    have e : Lib.byteCells (sixty s.data.toList) = Lib.byteCells s.data.toList ++ List.replicate (60 - s.size) (.int .u8 0) := by
      unfold sixty
      rw [List.take_of_length_le (by simpa using hle), Lib.byteCells_append]
      simp [Lib.byteCells]
    rw [e]; rfl
  · have hlen : (Lib.byteCells (s.data.toList.take 60)).length = 60 := by rw [Lib.byteCells_length, List.length_take]; simp; omega
    have hst := run_storeCells_at Try.prog N 0 74 (Lib.byteCells (s.data.toList.take 60)) 0 _ w h (by rw [hlen]; simp [hz]) (Lib.byteCells_one _)
    have hmin : Nat.min s.size 60 = 60 := Nat.min_eq_right (by omega)
    have htk : List.take 60 (List.map (fun b : UInt8 => Value.int IntKind.u8 (b.toNat : Int)) s.data.toList) = Lib.byteCells (s.data.toList.take 60) := by
      rw [← List.map_take]; rfl
    have e6 : sixty s.data.toList = s.data.toList.take 60 := by
      unfold sixty
      rw [show 60 - s.data.toList.length = 0 by simp; omega]; simp
    refine ⟨60, ?_⟩
    rw [hlen] at hst
    simp only [Nat.add_zero] at hst
    have hu := Try.underlying32
    have hs := info_u8s
    cases hq : Try.prog.info? 5 with
    | none => simp [hq] at hs
    | some i =>
      simp [Builtin.copy_, run_underlying hu, Builtin.lenOf, Builtin.firstCells, sizeOf, typeInfo, hq, hmin]
      rw [htk, hst]
      simp [Result.andThen]
      refine ⟨rfl, ?_⟩
      rw [hzl, e6]
      simp
/-- The pattern's bits below k that lie within a sector. -/
def bitsTo (pat a : Nat) : Nat → Nat
  | 0 => 0
  | k + 1 => bitsTo pat a k ^^^ (if pat / 2 ^ k % 2 = 1 ∧ a + k < 512 then 2 ^ k else 0)
theorem bitsTo_lt (pat a : Nat) : ∀ k, bitsTo pat a k < 2 ^ k
  | 0 => by simp [bitsTo]
  | k + 1 => by
    have h := bitsTo_lt pat a k
    have h2 : 2 ^ k < 2 ^ (k + 1) := Nat.pow_lt_pow_right (by decide) (by omega)
    unfold bitsTo
    exact Nat.xor_lt_two_pow (by omega) (by split <;> omega)
theorem bitsTo_on {pat a k : Nat} (h : pat / 2 ^ k % 2 = 1 ∧ a + k < 512) : bitsTo pat a (k + 1) = bitsTo pat a k ^^^ 2 ^ k := by
  rw [bitsTo, if_pos h]
theorem bitsTo_off {pat a k : Nat} (h : ¬ (pat / 2 ^ k % 2 = 1 ∧ a + k < 512)) : bitsTo pat a (k + 1) = bitsTo pat a k := by
  rw [bitsTo, if_neg h, Nat.xor_zero]
theorem bitsTo_ne {pat a k : Nat} (h : pat / 2 ^ k % 2 = 1 ∧ a + k < 512) : bitsTo pat a (k + 1) ≠ 0 := by
  rw [bitsTo_on h]
  intro e
  have h1 := bitsTo_lt pat a k
  have h2 : bitsTo pat a k = 2 ^ k := by
    have := congrArg (fun x => x ^^^ 2 ^ k) e
    simpa [Nat.xor_assoc] using this
  omega
/-- 64 bytes at the head of a block. -/
def At64 (w : World) (Q : Nat) (cur : List UInt8) : Prop := ∃ cs lo hi, w.heap[Q]? = some (.cells cs 5 (lo, hi)) ∧ 64 ≤ cs.size ∧ (hi = 0 ∨ cs.size ≤ lo) ∧ cur.length = 64 ∧ ∀ j, j < 64 → cs[j]? = some (.int .u8 (cur.getD j 0).toNat)
theorem At64.cell {w : World} {Q : Nat} {cur : List UInt8} (h : At64 w Q cur) {j : Nat} (hj : j < 64) : w.cell? ⟨Q, j, none⟩ = some (.int .u8 (cur.getD j 0).toNat) := by
  obtain ⟨cs, lo, hi, h1, h2, h3, h4, h5⟩ := h
  simp [World.cell?, h1, h5 j hj]
theorem At64.free {w : World} {Q : Nat} {cur : List UInt8} (h : At64 w Q cur) {j : Nat} (hj : j < 64) : w.frozen? ⟨Q, j, none⟩ = false := by
  obtain ⟨cs, lo, hi, h1, h2, h3, h4, h5⟩ := h
  simp only [World.frozen?, h1]
  rcases h3 with h | h
  · subst h; simp
  · simp; omega
theorem At64.lt {w : World} {Q : Nat} {cur : List UInt8} (h : At64 w Q cur) : Q < w.heap.size := by
  obtain ⟨cs, lo, hi, h1, _⟩ := h
  exact (Array.getElem?_eq_some_iff.1 h1).1
theorem At64.set {w : World} {Q : Nat} {cur : List UInt8} (h : At64 w Q cur) {j : Nat} (hj : j < 64) (y : UInt8) : At64 (w.setCell ⟨Q, j, none⟩ (.int .u8 y.toNat)) Q (cur.set j y) := by
  obtain ⟨cs, lo, hi, h1, h2, h3, h4, h5⟩ := h
  refine ⟨cs.setIfInBounds j (.int .u8 y.toNat), lo, hi, by simp [World.setCell, Array.getElem?_modify, h1], by simpa using h2, by simpa using h3, by simpa using h4, fun i hi => ?_⟩
  by_cases e : i = j
  · subst e
    rw [Array.getElem?_setIfInBounds_self_of_lt (by omega), List.getD_eq_getElem?_getD, List.getElem?_set_self (by omega)]; rfl
  · rw [Array.getElem?_setIfInBounds_ne (Ne.symm e), h5 i hi, List.getD_eq_getElem?_getD, List.getD_eq_getElem?_getD (l := cur.set j y), List.getElem?_set_ne (Ne.symm e)]
theorem At64.conv {w : World} {Q cc : Nat} {cur : List UInt8} (h : At64 w Q cur) : (convert 32 9 (.slice (some ⟨Q, 0, none⟩) 64 cc)).run Try.prog w = .ok (.string ⟨cur.toArray⟩) w := by
  have hl : cur.length = 64 := by obtain ⟨_, _, _, _, _, _, h4, _⟩ := h; exact h4
  have e := run_convert_bytes_back (P := Try.prog) w 32 9 5 ⟨Q, 0, none⟩ cc cur Try.underlying32 Try.underlying5 Try.underlying9 (fun j hj => by
    have := h.cell (j := j) (by omega)
    rw [List.getD_eq_getElem?_getD, List.getElem?_eq_getElem hj] at this
    rw [Addr.add_mid, Nat.zero_add]
    exact this)
  rw [hl] at e; exact e
theorem look_closed {L : List UInt8} (h : L.length = 60) : lookOf (closed L) = (L, 1) := by
  have ht : (closed L).take 60 = L := by rw [closed, List.take_left' h]
  unfold lookOf
  rw [if_neg (closed_not_blank h), ht, if_pos ⟨by rw [closed_length, h], rfl⟩]
set_option maxRecDepth 100000 in
theorem turn_bits (old : UInt8) (b : Nat) : bits .xor .u8 (old.toNat : Int) (2 ^ b % 256) = ((old ^^^ UInt8.ofNat (2 ^ b)).toNat : Int) := by
  have h := Sm.w_xor8 old (UInt8.ofNat (2 ^ b))
  rw [UInt8.toNat_ofNat'] at h
  rw [← h]; push_cast; rfl
theorem turn_num {n p k a : Nat} : n ^^^ p * 2 ^ a ^^^ 2 ^ (a + k) = n ^^^ (p ^^^ 2 ^ k) * 2 ^ a := by
  have d : (p ^^^ 2 ^ k) * 2 ^ a = p * 2 ^ a ^^^ 2 ^ k * 2 ^ a := by rw [← Nat.shiftLeft_eq, ← Nat.shiftLeft_eq, ← Nat.shiftLeft_eq, Nat.shiftLeft_xor_distrib]
  rw [d, ← Nat.pow_add, Nat.add_comm k a, Nat.xor_assoc]
theorem look_turned {L cur : List UInt8} (hL : L.length = 60) (hl : cur.length = 64) {p a : Nat} (hp : p < 2 ^ 32) (ha : a ≤ 512) (e : num cur = num (closed L) ^^^ p * 2 ^ a) (h0 : p ≠ 0) : (lookOf cur).2 ≠ 1 := by
  have hcl : (closed L).length = 64 := by rw [closed_length, hL]
  unfold lookOf
  split
  · simp
  · split
    · rename_i _ h
      exact absurd (burst (closed_feeds L) (by rw [h.2]; exact closed_feeds _) (by rw [hl, hcl]) hp (by rw [hcl]; exact ha) e) h0
    · simp
theorem look_same {L cur : List UInt8} (hL : L.length = 60) (hl : cur.length = 64) {p a : Nat} (e : num cur = num (closed L) ^^^ p * 2 ^ a) (h0 : p = 0) : (lookOf cur).2 = 1 := by
  have hcl : (closed L).length = 64 := by rw [closed_length, hL]
  subst h0
  have : cur = closed L := num_inj (by rw [hl, hcl]) (by simpa using e)
  rw [this, look_closed hL]
theorem At64.len {w : World} {Q : Nat} {cur : List UInt8} (h : At64 w Q cur) : cur.length = 64 := by obtain ⟨_, _, _, _, _, _, h4, _⟩ := h; exact h4
end Dk
set_option maxRecDepth 100000 in
set_option maxHeartbeats 1500000 in
theorem disksound_any (W : World) (body : ByteArray) (at_ pat : Nat) (hpat : pat < 4294967296) : Calls Try.prog 11 #[.string body, .int .u32 (at_ : Int), .int .u32 (pat : Int)] W fun e w' => e = .returned (.bool true) ∧ Below W.heap.size W w' := by
  have AW := Lib.hid (awake7_any W)
  obtain ⟨L, hL⟩ : ∃ L, L = Dk.sixty body.data.toList := ⟨_, rfl⟩
  have hLl : L.length = 60 := by rw [hL]; exact Dk.sixty_length _
  obtain ⟨sb, hsb⟩ : ∃ s : ByteArray, s = ⟨L.toArray⟩ := ⟨_, rfl⟩
  have hsbl : sb.data.toList = L := by rw [hsb]
  have hsbs : sb.size = 60 := by rw [hsb]; exact hLl
  obtain ⟨sc, hsc⟩ : ∃ s : ByteArray, s = ⟨(Dk.closed L).toArray⟩ := ⟨_, rfl⟩
  have hscl : sc.data.toList = Dk.closed L := by rw [hsc]
  have CL : Hid (∀ wx, Calls Try.prog 32 #[.string sb] wx fun e w' => e = .returned (.tuple #[.string sc, .int .i64 0]) ∧ Below wx.heap.size wx w') := fun wx => by
    have h := dkClose_ok wx sb hsbs
    rw [hsbl, ← hsc] at h; exact h
  have LO : Hid (∀ wx, Calls Try.prog 34 #[.string sc] wx fun e w' => e = .returned (.tuple #[.string sb, .int .i64 1]) ∧ Below wx.heap.size wx w') := fun wx => by
    have h := dkLook_any wx sc
    rw [hscl, Dk.look_closed hLl, ← hsb] at h; exact h
  have HSB := Lib.hid hsb
  have HLL := Lib.hid hLl
  have HSC := Lib.hid hscl
  have HL := Lib.hid hL
  clear hL hLl hsb hsbl hsbs hsc hscl
  have hz1 := (zero_of_info Dk.zero60).1
  obtain ⟨z0, hz0⟩ : ∃ z, z = Sm.rowB 60 [] := ⟨_, rfl⟩
  rw [← hz0] at hz1
  have HZ := Lib.hid hz0
  clear hz0
  go_enter Try.func11, Try.ntmps11
  go_wp2_with fail
  refine AW.out.mono ?_
  rintro e w1 ⟨rfl, b1⟩
  go_upto_region 4 with (fail)
  have g2 : (w1.alloc (.cells z0 74)).heap[w1.heap.size]? = some (.cells (Sm.rowB 60 []) 74 (0, 0)) := by rw [HZ.out]; exact heap_alloc_new w1 _
  have b2 : Below W.heap.size W (w1.alloc (.cells z0 74)) := b1.alloc b1.size _
  obtain ⟨N, hN⟩ : ∃ N, N = w1.heap.size := ⟨_, rfl⟩
  have hNB : W.heap.size ≤ N := by rw [hN]; exact b1.size
  rw [← hN] at g2 ⊢
  clear hN b1 hz1
  generalize w1.alloc (.cells z0 74) = w2 at *
  obtain ⟨nc, hcp⟩ := Dk.copy_body body g2
  have g3 := setRow_heap w2 N _ (Lib.byteCells (Dk.sixty body.data.toList)).toArray _ _ g2
  rw [← HL.out] at hcp g3
  have b3 : Below W.heap.size W (w2.setRow N (Lib.byteCells L).toArray) := Sm.below_setRow b2 hNB _
  go_upto_region 5 with (fail)
  generalize w2.setRow N (Lib.byteCells L).toArray = w3 at *
  clear g2 b2 hcp
  have HNB := Lib.hid hNB
  have G3 := Lib.hid g3
  have hcv := Sm.conv_row (l := L) (n := 60) G3.out HLL.out
  rw [← HSB.out] at hcv
  clear g3 hNB
  go_wp2_with fail
  refine (CL.out _).mono ?_
  rintro e w4 ⟨rfl, k⟩
  clear hcv
  have G4 := Lib.hid ((k.block N (Sm.lt_of G3.out)).trans G3.out)
  have b4 := b3.trans (k.mono b3.size)
  clear k b3 G3
  go_wp2_with fail
  refine (LO.out _).mono ?_
  rintro e w5 ⟨rfl, k⟩
  have G5 := Lib.hid ((k.block N (Sm.lt_of G4.out)).trans G4.out)
  have b5 := b4.trans (k.mono b4.size)
  clear k b4 G4
  have hcv := Sm.conv_row (l := L) (n := 60) G5.out HLL.out
  rw [← HSB.out] at hcv
  obtain ⟨hcb, hrow, k6⟩ := Sm.conv_rowB w5 sc
  obtain ⟨cc, hcc⟩ : ∃ c, c = grownCap w5 sc.size 0 5 := ⟨_, rfl⟩
  rw [← hcc] at hcb hrow
  obtain ⟨w6, hw6⟩ : ∃ x, x = Lib.bytesWorld w5 5 sc := ⟨_, rfl⟩
  rw [← hw6] at hcb hrow k6
  have b6 := b5.trans (k6.mono b5.size)
  clear hcc hw6 k6 G5
  go_upto_region 11 with (fail)
  obtain ⟨Q, hQ⟩ : ∃ Q, Q = w5.heap.size := ⟨_, rfl⟩
  have hQB : W.heap.size ≤ Q := by rw [hQ]; exact b5.size
  have hcs : sc.size = 64 := by
    have e : sc.size = sc.data.toList.length := by simp
    rw [e, HSC.out, Dk.closed_length, HLL.out]
  rw [← hQ, hcs] at hrow
  rw [← hQ, hcs]
  have ha64 : Dk.At64 w6 Q (Dk.closed L) := by
    obtain ⟨g, cap, cs, lo, hi, h1, h2, h3, h4, h5, h6, h7⟩ := hrow
    rw [HSC.out] at h7 h4
    simp only [Value.slice.injEq, Option.some.injEq, Addr.mk.injEq] at h1
    have hl : (Dk.closed L).length = 64 := by rw [Dk.closed_length, HLL.out]
    rw [← h1.1.1] at h3
    refine ⟨cs, lo, hi, h3, by omega, ?_, hl, fun j hj => h7 j (by omega)⟩
    rcases h6 with h6 | h6
    · exact .inl h6
    · exact .inr (by omega)
  have HQB := Lib.hid hQB
  clear hQB hQ hcs hrow hcb b5 hcv
  obtain ⟨a, ha⟩ : ∃ a, a = at_ % 512 := ⟨_, rfl⟩
  have hal : a < 512 := by omega
  have hA : (at_ : Int) % 512 = (a : Int) := by omega
  clear ha
  go_wp2
  go_loopw [13, 14] (fun s13 s14 wr => ∃ (k : Nat) (cur : List UInt8), k ≤ 32 ∧ s14 = .int .i64 k ∧ s13 = .bool (decide (Dk.bitsTo pat a k ≠ 0)) ∧ Dk.At64 wr Q cur ∧ Dk.num cur = Dk.num (Dk.closed L) ^^^ Dk.bitsTo pat a k * 2 ^ a ∧ Below W.heap.size W wr) (fun _ s14 _ => 32 - (intOf s14).toNat)
  case atStart => exact ⟨0, _, by omega, rfl, by simp [Dk.bitsTo], ha64, by simp [Dk.bitsTo], b6⟩
  case round =>
    clear ha64 b6
    obtain ⟨k, cur, hk, rfl, rfl, hrow, hnum, hb⟩ := hrel
    have HR := Lib.hid hrow
    have HN := Lib.hid hnum
    clear hrow hnum
    by_cases hk32 : k < 32
    · have hki : (k : Int) < 32 := by omega
      have hsuc : IntKind.i64.wrap ((k : Int) + 1) = ((k + 1 : Nat) : Int) := by simp [IntKind.wrap, IntKind.bits, IntKind.signed]; omega
      have hku : IntKind.u64.wrap (k : Int) = (k : Int) := by simp [IntKind.wrap, IntKind.bits, IntKind.signed]; omega
      have hpk : bits .and .u32 ((pat : Int) / 2 ^ k) 1 = ((pat / 2 ^ k % 2 : Nat) : Int) := by
        have h := Sm.w_and (a := pat / 2 ^ k) (b := 1) (Nat.lt_of_le_of_lt (Nat.div_le_self _ _) hpat) (by decide)
        rw [Nat.and_one_is_mod] at h
        rw [← h]; push_cast; rfl
      obtain ⟨t, ht⟩ : ∃ t, t = a + k := ⟨_, rfl⟩
      have hwr : IntKind.i64.wrap ((a : Int) + (k : Int)) = (t : Int) := by simp [IntKind.wrap, IntKind.bits, IntKind.signed]; omega
      have ht2 : t < 1024 := by omega
      have HT8 := Lib.hid ht
      clear ht
      have p0 : (0 : Int) ≤ (k : Int) := by omega
      obtain ⟨β, hβ⟩ : ∃ β, β = pat / 2 ^ k % 2 := ⟨_, rfl⟩
      rw [← hβ] at hpk
      have HB := Lib.hid hβ
      have hβ2 : β = 0 ∨ β = 1 := by omega
      clear hβ
      obtain ⟨T, hT⟩ : ∃ t, t = decide (Dk.bitsTo pat a k ≠ 0) := ⟨_, rfl⟩
      rw [← hT]
      have HT := Lib.hid hT
      clear hT
      rcases hβ2 with rfl | rfl
      · go_wp2
        go_roundw
        case rel =>
          have e := Dk.bitsTo_off (pat := pat) (a := a) (k := k) (by rw [← HB.out]; omega)
          refine ⟨k + 1, cur, by omega, rfl, ?_, HR.out, ?_, hb⟩
          · rw [e, HT.out]
          · rw [e]; exact HN.out
        case measure => simp [intOf]; omega
      · by_cases hbit : t < 512
        · have hbi : (t : Int) < 512 := by omega
          obtain ⟨j, hj⟩ : ∃ j, j = t / 8 := ⟨_, rfl⟩
          obtain ⟨b, hb8⟩ : ∃ b, b = t % 8 := ⟨_, rfl⟩
          have hjl : j < 64 := by omega
          have hbl : b < 8 := by omega
          have hd1 : (t : Int) / 8 = (j : Int) := by omega
          have hd2 : (t : Int).tdiv 8 = (j : Int) := by rw [Int.tdiv_eq_ediv_of_nonneg (by omega)]; exact hd1
          have hm1 : (t : Int) % 8 = (b : Int) := by omega
          have hm2 : (t : Int).tmod 8 = (b : Int) := by rw [Int.tmod_eq_emod_of_nonneg (by omega)]; exact hm1
          have htj : t = 8 * j + b := by omega
          have HTJ := Lib.hid htj
          obtain ⟨old, hold⟩ : ∃ o, o = cur.getD j 0 := ⟨_, rfl⟩
          have x0 := HR.out.cell hjl
          have xf := HR.out.free hjl
          rw [← hold] at x0
          have HO := Lib.hid hold
          have ji : (j : Int) < 64 := by omega
          clear hj hb8 htj hold
          go_wp2
          go_roundw
          case rel =>
            have hon : pat / 2 ^ k % 2 = 1 ∧ a + k < 512 := ⟨HB.out.symm, by rw [← HT8.out]; exact hbit⟩
            refine ⟨k + 1, cur.set j (old ^^^ UInt8.ofNat (2 ^ b)), by omega, rfl, congrArg Value.bool (decide_eq_true (Dk.bitsTo_ne hon)).symm, ?_, ?_, hb.setCell (p := ⟨Q, j, none⟩) HQB.out _⟩
            · rw [Dk.turn_bits]; exact HR.out.set hjl _
            · rw [HO.out, Dk.num_turn (by rw [HR.out.len]; exact hjl) hbl, HN.out, ← HTJ.out, HT8.out, Dk.turn_num, Dk.bitsTo_on hon]
          case measure => simp [intOf]; omega
        · have hbi : ¬ (t : Int) < 512 := by omega
          go_wp2
          go_roundw
          case rel =>
            have e := Dk.bitsTo_off (pat := pat) (a := a) (k := k) (by rw [← HT8.out]; omega)
            refine ⟨k + 1, cur, by omega, rfl, ?_, HR.out, ?_, hb⟩
            · rw [e, HT.out]
            · rw [e]; exact HN.out
          case measure => simp [intOf]; omega
    · have hki : ¬ (k : Int) < 32 := by omega
      obtain rfl : k = 32 := by omega
      obtain ⟨sq, hsq⟩ : ∃ s : ByteArray, s = ⟨cur.toArray⟩ := ⟨_, rfl⟩
      have hcv := HR.out.conv (cc := cc)
      rw [← hsq] at hcv
      obtain ⟨x, hx⟩ : ∃ x : ByteArray, x = ⟨(Dk.lookOf cur).1.toArray⟩ := ⟨_, rfl⟩
      obtain ⟨n, hn⟩ : ∃ n : Int, n = (Dk.lookOf cur).2 := ⟨_, rfl⟩
      have LQ : Hid (Calls Try.prog 34 #[.string sq] wr fun e w' => e = .returned (.tuple #[.string x, .int .i64 n]) ∧ Below wr.heap.size wr w') := by
        have h := dkLook_any wr sq
        rw [show sq.data.toList = cur by rw [hsq], ← hx, ← hn] at h
        exact h
      clear hsq hx
      by_cases h0 : Dk.bitsTo pat a 32 = 0
      · have hn1 : n = 1 := hn.trans (Dk.look_same HLL.out HR.out.len HN.out h0)
        have hd : decide (Dk.bitsTo pat a 32 ≠ 0) = false := by simp [h0]
        rw [hd]
        clear hn h0 hd
        go_wp2_with fail
        refine LQ.out.mono ?_
        rintro e w7 ⟨rfl, k7⟩
        have b7 := hb.trans (k7.mono hb.size)
        clear k7
        go_wp2_with fail
        go_ret
        exact ⟨by simp, b7⟩
      · have hn1 : ¬ n = 1 := by rw [hn]; exact Dk.look_turned HLL.out HR.out.len (Dk.bitsTo_lt pat a 32) (by omega) HN.out h0
        have hnb : (n == 1) = false := by rw [beq_eq_false_iff_ne]; exact hn1
        have hd : decide (Dk.bitsTo pat a 32 ≠ 0) = true := by simp [h0]
        rw [hd]
        clear hn h0 hd
        go_wp2_with fail
        refine LQ.out.mono ?_
        rintro e w7 ⟨rfl, k7⟩
        have b7 := hb.trans (k7.mono hb.size)
        clear k7
        go_wp2_with fail
        go_ret
        exact ⟨by simpa using hn1, b7⟩
end Go.Proofs.Ytleknlkbaeognaa
