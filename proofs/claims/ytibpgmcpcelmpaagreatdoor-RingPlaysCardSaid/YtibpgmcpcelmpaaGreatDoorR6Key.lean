/-
  The document's own key of a ring.
-/
import Derived.Test.YtibpgmcpcelmpaaGreatDoorRiOne
import Derived.Test.YtibpgmcpcelmpaaGreatDoorMRs
namespace Go.Proofs.YtibpgmcpcelmpaaGreatDoor
open Go.RowKit
namespace Ri
theorem zeroA32 : (Tryz.prog.info? 63).map (fun i => (i.zero, i.size)) = some (some (.agg (Sm.rowB 32 [])), 32) := by kernel_rfl
theorem infoA32 {c : List Value} (h : c.length = 32) : (Tryz.prog.info? 63).map (·.size) = some c.toArray.size := by rw [List.size_toArray, h]; kernel_rfl
end Ri

set_option maxRecDepth 100000 in
set_option maxHeartbeats 2000000 in
theorem r6Key_any (w : World) (M : ByteArray) (hM : M.size ≤ 35184372088832) (i : Int) :
    Calls Tryz.prog 17 #[.string M, .int .i64 i] w fun e w' => e = .returned (.agg (Lib.byteCells (Ri.key M.data.toList i)).toArray) ∧ Below w.heap.size w w' := by
  obtain ⟨zk, hzk⟩ : ∃ z, z = Sm.rowB 32 [] := ⟨_, rfl⟩
  have hzzk := (zero_of_info Ri.zeroA32).1
  rw [← hzk] at hzzk
  have hzks : zk.size = 32 := by rw [hzk]; exact Sm.rowB_size (by simp)
  obtain ⟨N, hN⟩ : ∃ N, N = w.heap.size := ⟨_, rfl⟩
  have g0 : (w.alloc (.cells zk 63)).heap[N]? = some (.cells zk 63 (0, 0)) := by rw [hN]; exact heap_alloc_new w _
  have b1 : Below N w (w.alloc (.cells zk 63)) := by rw [hN]; exact (Below.refl _ w).alloc (Nat.le_refl _) _
  have hv := Ri.wrap_u64 i
  obtain ⟨v, hvv⟩ : ∃ v, v = Ri.u64 i := ⟨_, rfl⟩
  rw [← hvv] at hv
  have HV := Lib.hid hvv
  rw [← hN]
  have HN := Lib.hid hN
  clear hzk hN hvv
  go_enter Tryz.func17, Tryz.ntmps17
  go_upto_region 1 with (fail)
  rw [← HN.out]
  generalize w.alloc (.cells zk 63) = W2 at *
  clear hzzk
  have G0 := Lib.hid g0
  clear g0
  go_wp2_with fail
  go_loopw [5, 6] (fun s t wr => ∃ k : Nat, k ≤ 8 ∧ t = .int .i64 (7 - (k : Int)) ∧ s = .string ⟨(Ri.ringL ++ Ri.b8 v k).toArray⟩ ∧ wr.heap[N]? = some (.cells zk 63 (0, 0)) ∧ Below N w wr) (fun _ t _ => (intOf t + 1).toNat)
  case atStart => exact ⟨0, by omega, rfl, rfl, G0.out, b1⟩
  case round =>
    clear b1 G0
    obtain ⟨k, hk, rfl, rfl, hr0, hbk⟩ := hrel
    have HR0 := Lib.hid hr0
    clear hr0
    by_cases hlt : k < 8
    · obtain ⟨j, hj⟩ : ∃ j : Nat, (7 : Int) - k = j := ⟨7 - k, by omega⟩
      rw [hj]
      have HJ := Lib.hid hj
      have q1 : (0 : Int) ≤ j := by omega
      have q2 : (j : Int) ≤ 7 := by omega
      have v1 : IntKind.i64.wrap (8 * (j : Int)) = 8 * (j : Int) := IntWalk.i64_in _ (by omega)
      obtain ⟨z, hz⟩ : ∃ z, z = UInt8.ofNat (v / 2 ^ (8 * j)) := ⟨_, rfl⟩
      obtain ⟨b1, hb1⟩ : ∃ b : ByteArray, b = ⟨[z].toArray⟩ := ⟨_, rfl⟩
      have hb1s : b1.size = 1 := by rw [hb1]; rfl
      have cv : (convert 85 9 (.slice (some ⟨wr.heap.size, 0, none⟩) 1 1)).run Tryz.prog (wr.alloc (.cells #[.int .u8 ((v : Int) / 2 ^ (8 * j) % 256)] 5)) = .ok (.string b1) (wr.alloc (.cells #[.int .u8 ((v : Int) / 2 ^ (8 * j) % 256)] 5)) := by
        rw [Se.shr_byte, hb1, hz]
        exact run_convert_bytes_back (P := Tryz.prog) _ 85 9 5 ⟨wr.heap.size, 0, none⟩ 1 [UInt8.ofNat (v / 2 ^ (8 * j))] Tryz.underlying85 Tryz.underlying5 Tryz.underlying9 (fun j hj => by match j, hj with | 0, _ => simp [Addr.add])
      obtain ⟨so, hso⟩ : ∃ b : ByteArray, b = ⟨(Ri.ringL ++ Ri.b8 v k).toArray⟩ := ⟨_, rfl⟩
      have hsos : so.size = 4 + k := by
        rw [hso]
        show (List.toArray (Ri.ringL ++ Ri.b8 v k)).size = _
        rw [List.size_toArray, List.length_append, Ri.b8_length]; rfl
      have hcat : so ++ b1 = ⟨(Ri.ringL ++ Ri.b8 v (k + 1)).toArray⟩ := by
        rw [hso, hb1, hz, Ri.b8_snoc, show 56 - 8 * k = 8 * j by omega]
        exact ByteArray.ext (by rw [ByteArray.data_append]; simp)
      rw [← hso]
      have HCAT := Lib.hid hcat
      have p6 : ¬ 9223372036854775807 < so.size + b1.size := by omega
      clear hj hz hb1 hso hcat hsos hb1s
      go_wp2_with fail
      go_roundw
      case rel =>
        have h1 := HJ.out
        refine ⟨k + 1, by omega, by congr 1; omega, by rw [HCAT.out], (Below.heap_alloc _ _ _ (Sm.lt_of HR0.out)).trans HR0.out, hbk.alloc ?_ _⟩
        have h2 := hbk.size
        have h3 := HN.out
        omega
      case measure => simp [intOf]
    · obtain rfl : k = 8 := by omega
      have q1 : ¬ (0 : Int) ≤ 7 - ((8 : Nat) : Int) := by omega
      obtain ⟨tx, htx⟩ : ∃ b : ByteArray, b = ⟨(Ri.ringL ++ Ri.b8 v 8).toArray⟩ := ⟨_, rfl⟩
      have htxs : tx.size = 12 := by
        rw [htx]
        show (List.toArray (Ri.ringL ++ Ri.b8 v 8)).size = _
        rw [List.size_toArray, List.length_append, Ri.b8_length]; rfl
      obtain ⟨co, hco⟩ : ∃ c, c = Lib.byteCells (Ri.key M.data.toList i) := ⟨_, rfl⟩
      have hcol : co.length = 32 := by rw [hco, Lib.byteCells_length, Ri.key_length]
      have hone : co.toArray.all (·.oneCell') = true := by rw [hco]; exact Sm.bytes_one _
      have TAG : Hid (∀ wx : World, Calls Tryz.prog 34 #[.string M, .string tx] wx fun e w' => e = .returned (.agg co.toArray) ∧ Below wx.heap.size wx w') := fun wx => by
        have h := rmtag_any M tx hM (by omega) wx
        rw [hco, Ri.key, ← HV.out]
        rw [htx] at h ⊢
        exact h
      have hick := Ri.infoA32 hcol
      have HCO := Lib.hid hco
      rw [← htx]
      clear htx htxs hco
      go_wp2_with fail
      refine (TAG.out _).mono ?_
      rintro e w3 ⟨rfl, k3⟩
      have HR3 := Lib.hid ((k3.block N (Sm.lt_of HR0.out)).trans HR0.out)
      have B3 := Lib.hid (hbk.trans (k3.mono (by have := hbk.size; have := HN.out; omega)))
      clear k3 HR0 hbk TAG
      go_wp2_with (with_reducible refine wpList_store_row rfl 63 (.tmp 4) (.tmp 24) rfl N co.toArray rfl rfl 63 _ (by exact HR3.out) hick (by rw [hzks, List.size_toArray, hcol]) hone ?_)
      exact bodyPost_ret (v := .agg co.toArray) (results_cell_row rfl _ _ N 63 _ (0, 0) _ rfl (setRow_heap _ N _ _ _ _ HR3.out) Tryz.underlying63 rfl hick) rfl ⟨by rw [HCO.out], Sm.below_setRow B3.out (Nat.le_refl _) _⟩
end Go.Proofs.YtibpgmcpcelmpaaGreatDoor
