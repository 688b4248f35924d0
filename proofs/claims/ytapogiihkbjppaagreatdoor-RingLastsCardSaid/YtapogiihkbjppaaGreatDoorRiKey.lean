/-
  What ring's Key makes: a master's key.
-/
import Derived.Test.YtapogiihkbjppaaGreatDoorRiMath
import Derived.Test.YtapogiihkbjppaaGreatDoorSeNonce
namespace Go.Proofs.YtapogiihkbjppaaGreatDoor
open Go.RowKit
namespace Ri
theorem zero8 : (Tryz.prog.info? 91).map (fun i => (i.zero, i.size)) = some (some (.agg (Sm.rowB 8 [])), 8) := by kernel_rfl
theorem zeroKey : (Tryz.prog.info? 50).map (fun i => (i.zero, i.size)) = some (some (.agg (Sm.rowB 32 [])), 32) := by kernel_rfl
def b8 (v k : Nat) : List UInt8 := (List.range k).map fun i => UInt8.ofNat (v / 2 ^ (56 - 8 * i))
theorem b8_length (v k : Nat) : (b8 v k).length = k := by simp [b8]
theorem b8_snoc (v k : Nat) : b8 v (k + 1) = b8 v k ++ [UInt8.ofNat (v / 2 ^ (56 - 8 * k))] := Sm.range_snoc
theorem wrap_u64 (i : Int) : IntKind.u64.wrap i = (u64 i : Int) := by
  rw [IntKind.wrap_u64, u64]
  omega
theorem infoKey {c : List Value} (h : c.length = 32) : (Tryz.prog.info? 50).map (·.size) = some c.toArray.size := by rw [List.size_toArray, h]; kernel_rfl
end Ri

set_option maxRecDepth 100000 in
set_option maxHeartbeats 2000000 in
theorem rgKey_any {w : World} (hH : Sm.HAt w) (hK : Sm.KAt w) (hsz : 1 < w.heap.size) (M : ByteArray) (hM : M.size ≤ 1152921504606846976) (i : Int) :
    Calls Tryz.prog 21 #[.string M, .int .i64 i] w fun e w' => e = .returned (.agg (Lib.byteCells (Ri.key M.data.toList i)).toArray) ∧ Below w.heap.size w w' := by
  have HH := Lib.hid hH
  have HK := Lib.hid hK
  obtain ⟨z8, hz8⟩ : ∃ z, z = Sm.rowB 8 [] := ⟨_, rfl⟩
  have hzz8 := (zero_of_info Ri.zero8).1
  rw [← hz8] at hzz8
  obtain ⟨zk, hzk⟩ : ∃ z, z = Sm.rowB 32 [] := ⟨_, rfl⟩
  have hzzk := (zero_of_info Ri.zeroKey).1
  rw [← hzk] at hzzk
  have hzks : zk.size = 32 := by rw [hzk]; exact Sm.rowB_size (by simp)
  obtain ⟨N, hN⟩ : ∃ N, N = w.heap.size := ⟨_, rfl⟩
  have hN1 : 1 < N := by omega
  have g0 : ((w.alloc (.cells zk 50)).alloc (.cells z8 91)).heap[N]? = some (.cells zk 50 (0, 0)) := by
    rw [hN, Below.heap_alloc _ _ _ (by simp)]; exact heap_alloc_new w _
  have g1 : ((w.alloc (.cells zk 50)).alloc (.cells z8 91)).heap[N + 1]? = some (.cells (Sm.rowB 8 (Ri.b8 (Ri.u64 i) 0)) 91 (0, 0)) := by
    rw [hN, show Sm.rowB 8 (Ri.b8 (Ri.u64 i) 0) = z8 by rw [hz8]; rfl]
    simpa using heap_alloc_new (w.alloc (.cells zk 50)) (.cells z8 91)
  have b1 : Below N w ((w.alloc (.cells zk 50)).alloc (.cells z8 91)) := by
    rw [hN]; exact ((Below.refl _ w).alloc (Nat.le_refl _) _).alloc (by simp) _
  have hv := Ri.wrap_u64 i
  obtain ⟨v, hvv⟩ : ∃ v, v = Ri.u64 i := ⟨_, rfl⟩
  rw [← hvv] at hv g1
  have HV := Lib.hid hvv
  rw [← hN]
  have HN := Lib.hid hN
  clear hz8 hzk hN hvv hH hK
  go_enter Tryz.func21, Tryz.ntmps21
  go_upto_region 2 with (fail)
  rw [← HN.out]
  generalize (w.alloc (.cells zk 50)).alloc (.cells z8 91) = W2 at *
  clear hzz8 hzzk
  have G0 := Lib.hid g0
  clear g0
  go_wp2_with fail
  go_loopw [6, 7] (fun _ t wr => ∃ k : Nat, k ≤ 8 ∧ t = .int .i64 k ∧ wr.heap[N + 1]? = some (.cells (Sm.rowB 8 (Ri.b8 v k)) 91 (0, 0)) ∧ wr.heap[N]? = some (.cells zk 50 (0, 0)) ∧ Below N w wr) (fun _ t _ => 8 - (intOf t).toNat)
  case atStart => exact ⟨0, by omega, rfl, g1, G0.out, b1⟩
  case round =>
    clear g1 b1 G0
    obtain ⟨k, hk, rfl, hr1, hr0, hbk⟩ := hrel
    have HR1 := Lib.hid hr1
    have HR0 := Lib.hid hr0
    clear hr1 hr0
    by_cases hlt : k < 8
    · have q1 : (k : Int) < 8 := by omega
      have hl := Ri.b8_length v k
      obtain ⟨old, hold⟩ := Sm.rowB_some (n := 8) (l := Ri.b8 v k) k (by omega) (by omega)
      have hold := Sm.cells_of HR1.out k old hold
      have fz := Sm.free_of HR1.out k
      have v1 : IntKind.i64.wrap (8 * (k : Int)) = 8 * (k : Int) := IntWalk.i64_in _ (by omega)
      have v2 : IntKind.i64.wrap (56 - 8 * (k : Int)) = 56 - 8 * (k : Int) := IntWalk.i64_in _ (by omega)
      have p1 : 0 ≤ 56 - 8 * (k : Int) := by omega
      have p2 : 8 * (k : Int) ≤ 56 := by omega
      go_wp2_with fail
      go_roundw
      case rel =>
        refine ⟨k + 1, by omega, by go_num, ?_, ?_, hbk.setCell (p := ⟨N + 1, k, none⟩) (by show N ≤ N + 1; omega) _⟩
        · have e := Sm.rowB_set (n := 8) (l := Ri.b8 v k) (by omega) (UInt8.ofNat (v / 2 ^ (56 - 8 * k)))
          rw [hl] at e
          rw [Ri.b8_snoc, ← e, Se.shr_byte]
          exact Sm.heap_set HR1.out k _
        · rw [Below.heap_setCell _ _ _ _ (by show N ≠ N + 1; omega)]; exact HR0.out
      case measure => simp [intOf]; omega
    · obtain rfl : k = 8 := by omega
      have q1 : ¬ ((8 : Nat) : Int) < 8 := by omega
      have hr := HR1.out
      rw [Sm.rowB_full (by rw [Ri.b8_length])] at hr
      have CV : Hid ((convert 69 9 (.slice (some ⟨N + 1, 0, none⟩) 8 8)).run Tryz.prog wr = .ok (.string ⟨(Ri.b8 v 8).toArray⟩) wr) := Sm.conv_row hr (Ri.b8_length v 8)
      obtain ⟨tb, htb⟩ : ∃ t : ByteArray, t = ⟨(Ri.b8 v 8).toArray⟩ := ⟨_, rfl⟩
      have htbs : tb.size = 8 := by rw [htb]; show (Array.size _) = _; rw [List.size_toArray, Ri.b8_length]
      obtain ⟨tx, htx⟩ : ∃ t : ByteArray, t = ⟨#[114, 105, 110, 103]⟩ ++ tb := ⟨_, rfl⟩
      have htxl : tx.data.toList = Ri.ringL ++ Ri.be8 v := by
        rw [htx, htb, ByteArray.data_append]
        simp [Ri.ringL, Ri.b8, Ri.be8]
      have htxs : tx.size = 12 := by
        have h1 : tx.data.toList.length = tx.size := by rw [Array.length_toList]; rfl
        rw [← h1, htxl, List.length_append, Ri.be8_length]; rfl
      obtain ⟨co, hco⟩ : ∃ c, c = Lib.byteCells (Ri.key M.data.toList i) := ⟨_, rfl⟩
      have hcol : co.length = 32 := by rw [hco, Lib.byteCells_length, Ri.key_length]
      have hone : co.toArray.all (·.oneCell') = true := by rw [hco]; exact Sm.bytes_one _
      have TAG : Hid (∀ wx : World, Sm.HAt wx → Sm.KAt wx → 1 < wx.heap.size → Calls Tryz.prog 39 #[.string M, .string tx] wx fun e w' => e = .returned (.agg co.toArray) ∧ Below wx.heap.size wx w') := fun wx h1 h2 h3 => by
        have h := tag_any M tx h1 h2 h3 hM (by omega)
        rw [htxl, HV.out] at h
        rw [hco]
        exact h
      have cv := CV.out
      rw [← htb] at cv
      have hadd : ¬ 9223372036854775807 < (ByteArray.mk #[114, 105, 110, 103]).size + tb.size := by rw [htbs]; decide
      rw [htx] at TAG
      have hick := Ri.infoKey hcol
      have HCO := Lib.hid hco
      clear htb htx htxl hr CV HR1 hco
      go_wp2_with fail
      refine (TAG.out _ (HH.out.low hbk (by have := HN.out; omega)) (HK.out.low hbk hN1) (by have := hbk.size; have := HN.out; omega)).mono ?_
      rintro e w3 ⟨rfl, k3⟩
      have HR3 := Lib.hid ((k3.block N (Sm.lt_of HR0.out)).trans HR0.out)
      have B3 := Lib.hid (hbk.trans (k3.mono (by have := hbk.size; have := HN.out; omega)))
      clear k3 HR0 hbk TAG cv hadd
      go_wp2_with (with_reducible refine wpList_store_row rfl 50 (.tmp 4) (.tmp 24) rfl N co.toArray rfl rfl 50 _ (by exact HR3.out) hick (by rw [hzks, List.size_toArray, hcol]) hone ?_)
      exact bodyPost_ret (v := .agg co.toArray) (results_cell_row rfl _ _ N 50 _ (0, 0) _ rfl (setRow_heap _ N _ _ _ _ HR3.out) Tryz.underlying50 rfl hick) rfl ⟨by rw [HCO.out], Sm.below_setRow B3.out (Nat.le_refl _) _⟩
end Go.Proofs.YtapogiihkbjppaaGreatDoor
