/-
  The document's own rounds on bytes, as plain functions.
-/
import Derived.Test.YtibpgmcpcelmpaaGreatDoorMRa
namespace Go.Proofs.YtibpgmcpcelmpaaGreatDoor
open Go.RowKit
namespace Ae
theorem map_range_get (f : Nat → Nat) (n i : Nat) (h : i < n) : ((List.range n).map f).getD i 0 = f i := by simp [List.getD_eq_getElem?_getD, h]
theorem bytes_cols (l : List UInt8) (h : l.length = 16) : bytes (cols l) = l := by
  apply List.ext_getElem?
  intro i
  by_cases hi : i < 16
  · have h1 : (bytes (cols l))[i]? = some (outB (cols l) i) := by simp [bytes, hi]
    have e3 : (cols l).getD (i / 4) 0 = Sm.word l (i / 4) := map_range_get (Sm.word l) 4 _ (by omega)
    rw [h1, outB, e3, byte_word l (i / 4) (i % 4) (Nat.mod_lt _ (by decide)), show 4 * (i / 4) + i % 4 = i by omega]
    rw [List.getD_eq_getElem?_getD, List.getElem?_eq_getElem (by omega)]
    simp
  · rw [List.getElem?_eq_none (by rw [bytes_length]; omega), List.getElem?_eq_none (by omega)]
/-- The columns behind S and the turn of the rows. -/
def subs (b : List Nat) : List Nat := (List.range 4).map (col b)
def mixs (b : List Nat) : List Nat := (List.range 4).map fun i => mixed (col b i)
theorem subs_get (b : List Nat) (i : Nat) (h : i < 4) : (subs b).getD i 0 = col b i := map_range_get (col b) 4 i h
theorem mixs_get (b : List Nat) (i : Nat) (h : i < 4) : (mixs b).getD i 0 = mixed (col b i) := map_range_get (fun i => mixed (col b i)) 4 i h
theorem subs_lt (b : List Nat) : ∀ x ∈ subs b, x < 4294967296 := range_lt (col_lt b) 4
theorem mixs_lt (b : List Nat) : ∀ x ∈ mixs b, x < 4294967296 := range_lt (f := fun i => mixed (col b i)) (fun i => mixed_lt (col_lt b i)) 4
theorem map_range_ext {f g : Nat → Nat} (n : Nat) (h : ∀ i, i < n → f i = g i) : (List.range n).map f = (List.range n).map g :=
  List.map_congr_left fun i hi => h i (List.mem_range.1 hi)
theorem with_first (b ws : List Nat) : withW b ws 0 = first ws b := map_range_ext 4 fun i _ => by rw [Nat.mul_zero, Nat.zero_add]
theorem with_mixs (b ws : List Nat) (r : Nat) : withW (mixs b) ws r = round ws r b := map_range_ext 4 fun i hi => by rw [mixs_get b i hi]
theorem with_subs (b ws : List Nat) : withW (subs b) ws 14 = last ws b := map_range_ext 4 fun i hi => by rw [subs_get b i hi]
/-- Byte i of the columns behind S and the turn. -/
def tB (b : List Nat) (i : Nat) : Nat := byteAt (col b (i / 4)) (i % 4)
theorem tB_lt (b : List Nat) (i : Nat) : tB b i < 256 := byteAt_lt _ _
theorem tB_eq (b : List Nat) (i : Nat) (hi : i < 16) : tB b i = sub1 (byteAt (b.getD ((i / 4 + i % 4) % 4) 0) (i % 4)) := by
  have hm : i % 4 < 4 := Nat.mod_lt _ (by decide)
  have h4 : i / 4 < 4 := by omega
  unfold tB col
  rw [byte_sub _ _ hm]
  obtain ⟨h0, h1, h2, h3⟩ := byteAt_be4 (byteAt_lt (b.getD (i / 4) 0) 0) (byteAt_lt (b.getD ((i / 4 + 1) % 4) 0) 1) (byteAt_lt (b.getD ((i / 4 + 2) % 4) 0) 2) (byteAt_lt (b.getD ((i / 4 + 3) % 4) 0) 3)
  obtain e | e | e | e : i % 4 = 0 ∨ i % 4 = 1 ∨ i % 4 = 2 ∨ i % 4 = 3 := by omega
  · rw [e, h0, Nat.add_zero, Nat.mod_eq_of_lt h4]
  · rw [e, h1]
  · rw [e, h2]
  · rw [e, h3]
theorem subs_byte (b : List Nat) (i : Nat) (hi : i < 16) : ((bytes (subs b)).getD i 0).toNat = tB b i := by
  rw [bytes_get _ i hi, outB, UInt8.toNat_ofNat', subs_get b _ (by omega), Nat.mod_eq_of_lt (byteAt_lt _ _)]
  rfl
/-- Byte i of the mixed columns. -/
def mB (b : List Nat) (i : Nat) : Nat := byteAt (mixed (col b (i / 4))) (i % 4)
theorem mB_lt (b : List Nat) (i : Nat) : mB b i < 256 := byteAt_lt _ _
theorem mixs_byte (b : List Nat) (i : Nat) (hi : i < 16) : ((bytes (mixs b)).getD i 0).toNat = mB b i := by
  rw [bytes_get _ i hi, outB, UInt8.toNat_ofNat', mixs_get b _ (by omega), Nat.mod_eq_of_lt (byteAt_lt _ _)]
  rfl
/-- A column's four bytes, mixed. -/
theorem mB_four (b : List Nat) (c : Nat) (hc : c % 4 = 0) :
    mB b c = tm (tB b c) 2 ^^^ tm (tB b (c + 1)) 3 ^^^ tB b (c + 2) ^^^ tB b (c + 3) ∧
    mB b (c + 1) = tB b c ^^^ tm (tB b (c + 1)) 2 ^^^ tm (tB b (c + 2)) 3 ^^^ tB b (c + 3) ∧
    mB b (c + 2) = tB b c ^^^ tB b (c + 1) ^^^ tm (tB b (c + 2)) 2 ^^^ tm (tB b (c + 3)) 3 ∧
    mB b (c + 3) = tm (tB b c) 3 ^^^ tB b (c + 1) ^^^ tB b (c + 2) ^^^ tm (tB b (c + 3)) 2 := by
  have d1 : (c + 1) / 4 = c / 4 := by omega
  have d2 : (c + 2) / 4 = c / 4 := by omega
  have d3 : (c + 3) / 4 = c / 4 := by omega
  have m1 : (c + 1) % 4 = 1 := by omega
  have m2 : (c + 2) % 4 = 2 := by omega
  have m3 : (c + 3) % 4 = 3 := by omega
  unfold mB tB
  rw [d1, d2, d3, hc, m1, m2, m3]
  have hx := col_lt b (c / 4)
  generalize col b (c / 4) = x at *
  have l := byteAt_lt x
  have e := be4_byteAt hx
  have hm := mixed_be4 (l 0) (l 1) (l 2) (l 3)
  rw [e] at hm
  obtain ⟨h0, h1, h2, h3⟩ := byteAt_be4 (mx_lt (a := byteAt x 0) (l 1) (l 2) (l 3)) (mx_lt (a := byteAt x 1) (l 2) (l 3) (l 0)) (mx_lt (a := byteAt x 2) (l 3) (l 0) (l 1)) (mx_lt (a := byteAt x 3) (l 0) (l 1) (l 2))
  rw [hm, h0, h1, h2, h3, tm_2, tm_2, tm_2, tm_2, tm_3, tm_3, tm_3, tm_3]
  unfold mx
  rw [xt_xor, xt_xor, xt_xor, xt_xor]
  generalize byteAt x 0 = p
  generalize byteAt x 1 = q
  generalize byteAt x 2 = r
  generalize byteAt x 3 = s
  generalize xt p = p'
  generalize xt q = q'
  generalize xt r = r'
  generalize xt s = s'
  refine ⟨?_, ?_, ?_, ?_⟩ <;> ac_rfl
/-- The state ahead of round r (1 to 14), and behind the last. -/
def stB (ws b : List Nat) (r : Nat) : List Nat := if r ≤ 14 then rounds ws b (r - 1) else enc ws b
theorem stB_lt {ws b : List Nat} (hw : ∀ x ∈ ws, x < 4294967296) (hb : ∀ x ∈ b, x < 4294967296) (r : Nat) : ∀ x ∈ stB ws b r, x < 4294967296 := by
  unfold stB
  split
  · exact rounds_lt hw hb _
  · exact enc_lt hw
theorem stB_one (ws b : List Nat) : stB ws b 1 = withW b ws 0 := by rw [with_first]; rfl
theorem stB_mix (ws b : List Nat) (r : Nat) (h1 : 1 ≤ r) (h : r < 14) : stB ws b (r + 1) = withW (mixs (stB ws b r)) ws r := by
  unfold stB
  rw [if_pos (by omega), if_pos (by omega), with_mixs]
  obtain ⟨k, rfl⟩ : ∃ k, r = k + 1 := ⟨r - 1, by omega⟩
  rfl
theorem stB_last (ws b : List Nat) : stB ws b 15 = withW (subs (stB ws b 14)) ws 14 := by
  rw [with_subs]
  rfl
/-- Sixteen bytes lie in block g, a block of bytes that may be written. -/
def RAt (w : World) (g : Nat) (f : Nat → Nat) : Prop := ∃ cur : Array Value, w.heap[g]? = some (.cells cur 5 (0, 0)) ∧ ∀ m, m < 16 → cur[m]? = some (.int .u8 (f m : Nat))
theorem RAt.lt {w : World} {g : Nat} {f : Nat → Nat} (h : RAt w g f) : g < w.heap.size := by
  obtain ⟨cur, h1, _⟩ := h
  exact Sm.lt_of h1
theorem RAt.cell {w : World} {g : Nat} {f : Nat → Nat} (h : RAt w g f) (m : Nat) (hm : m < 16) : w.cell? ⟨g, m, none⟩ = some (.int .u8 (f m : Nat)) := by
  obtain ⟨cur, h1, h2⟩ := h
  exact Sm.cells_of h1 m _ (h2 m hm)
theorem RAt.free {w : World} {g : Nat} {f : Nat → Nat} (h : RAt w g f) (m : Nat) : w.frozen? ⟨g, m, none⟩ = false := by
  obtain ⟨cur, h1, h2⟩ := h
  exact Sm.free_of h1 m
theorem RAt.block {w w' : World} {g : Nat} {f : Nat → Nat} (h : RAt w g f) (k : w'.heap[g]? = w.heap[g]?) : RAt w' g f := by
  obtain ⟨cur, h1, h2⟩ := h
  exact ⟨cur, k.trans h1, h2⟩
theorem RAt.set {w : World} {g : Nat} {f f' : Nat → Nat} (h : RAt w g f) (k : Nat) (hk : k < 16) (hf : ∀ m, m < 16 → m ≠ k → f' m = f m) : RAt (w.setCell ⟨g, k, none⟩ (.int .u8 (f' k : Nat))) g f' := by
  obtain ⟨cur, h1, h2⟩ := h
  refine ⟨_, Sm.heap_set h1 k _, fun m hm => ?_⟩
  have hs : k < cur.size := (Array.getElem?_eq_some_iff.1 (h2 k hk)).1
  by_cases e : m = k
  · subst e
    rw [Array.getElem?_setIfInBounds_self_of_lt hs]
  · rw [Array.getElem?_setIfInBounds_ne (Ne.symm e), h2 m hm, hf m hm e]
theorem RAt.other {w : World} {g g' o : Nat} {f : Nat → Nat} {v : Value} (h : RAt w g f) (hne : g ≠ g') : RAt (w.setCell ⟨g', o, none⟩ v) g f := h.block (Below.heap_setCell _ _ _ _ hne)
theorem RAt.ext {w : World} {g : Nat} {f f' : Nat → Nat} (h : RAt w g f) (e : ∀ m, m < 16 → f' m = f m) : RAt w g f' := by
  obtain ⟨cur, h1, h2⟩ := h
  exact ⟨cur, h1, fun m hm => by rw [h2 m hm, e m hm]⟩
theorem RAt.bytes {w : World} {g : Nat} {f : Nat → Nat} {l : List UInt8} (h : RAt w g f) (hl : l.length = 16) (e : ∀ m, m < 16 → (l.getD m 0).toNat = f m) : BytesAt w g l := fun j hj => by
  rw [h.cell j (by omega), e j (by omega)]
theorem made16r : madeCells (Value.int .u8 0).cells (16 * 1) = Sm.rowB 16 [] := by kernel_rfl
theorem make16r (W : World) : (Instr.makeSlice 85 (.int .i64 16) (.int .i64 16)).run Tryz.prog W = .ok (.slice (some ⟨W.heap.size, 0, none⟩) 16 16) (W.alloc (.cells (Sm.rowB 16 []) 5)) := by
  obtain ⟨i0, hi, hz0, hz1, hz2⟩ := info_parts info3_u8
  have hr := run_make (P := Tryz.prog) W 85 5 i0 _ Tryz.underlying85 hi hz0 .i64 .i64 16 16 (by omega) (by omega) (by rw [hz2]; decide) (by omega)
  rw [hz1] at hr
  rw [show (16 : Int).toNat = 16 from rfl, made16r] at hr
  exact hr
theorem rowB_nil (n : Nat) : Sm.rowB n [] = (Lib.byteCells (List.replicate n 0)).toArray := by unfold Sm.rowB; simp
theorem conv16 (W : World) : (convert 85 9 (.slice (some ⟨W.heap.size, 0, none⟩) 16 16)).run Tryz.prog (W.alloc (.cells (Sm.rowB 16 []) 5)) = .ok (.string ⟨(List.replicate 16 0).toArray⟩) (W.alloc (.cells (Sm.rowB 16 []) 5)) := by
  have g := heap_alloc_new W (.cells (Sm.rowB 16 []) 5)
  rw [rowB_nil] at g ⊢
  exact Sm.conv_row (n := 16) g (by simp)
theorem rowB_nil_r (n : Nat) : Sm.rowB n [] = (Lib.byteCells (List.replicate n 0)).toArray := by unfold Sm.rowB; simp
theorem rep_get (n m : Nat) : (List.replicate n (0 : UInt8)).getD m 0 = 0 := by
  rw [List.getD_eq_getElem?_getD, List.getElem?_replicate]
  split <;> rfl
theorem RAt.new (w : World) : RAt (w.alloc (.cells (Sm.rowB 16 []) 5)) w.heap.size (fun _ => 0) :=
  ⟨_, heap_alloc_new w _, fun m hm => by
    rw [rowB_nil_r, List.getElem?_toArray, Sm.byteCells_get (by simpa using hm)]
    rw [rep_get]
    rfl⟩
end Ae
end Go.Proofs.YtibpgmcpcelmpaaGreatDoor
