/-
  What padding does: what is put behind a text of n bytes.
-/
import Derived.Test.YtkijdpgdniaagaaDoorShNew
namespace Go.Proofs.YtkijdpgdniaagaaDoor
open Go.RowKit
namespace Sm
theorem made128 : madeCells (Value.int .u8 0).cells (128 * 1) = (Lib.byteCells (List.replicate 128 0)).toArray := by kernel_rfl
theorem be8_length (n : Nat) : (be8 n).length = 8 := by simp [be8]
theorem be8_step (n k : Nat) (hk : k < 8) : (be8 n).take (k + 1) = (be8 n).take k ++ [UInt8.ofNat (n / 2 ^ (56 - 8 * k))] := by
  rw [List.take_succ_eq_append_getElem (by rw [be8_length]; exact hk)]
  simp [be8]
theorem pad_start (z : Nat) (hz : z < 64) : ((Lib.byteCells (List.replicate 128 0)).set 0 (.int .u8 128)).take (1 + z) = Lib.byteCells (128 :: List.replicate z 0) := by
  rw [show List.replicate 128 (0 : UInt8) = 0 :: List.replicate 127 0 from rfl]
  simp only [Lib.byteCells, List.map_cons, List.set_cons_zero, List.map_replicate]
  rw [Nat.add_comm 1 z, List.take_succ_cons, List.take_replicate, show min z 127 = z by omega]
  rfl
end Sm

theorem info3_u8 : (Tryd.prog.info? 5).map (fun i => (i.zero, i.size, i.bytes)) = some (some (.int .u8 0), 1, 1) := by kernel_rfl

set_option maxRecDepth 100000 in
set_option maxHeartbeats 2000000 in
theorem padding_any (n : Nat) (hn : n ≤ 1152921504606846976) (w : World) :
    Calls Tryd.prog 40 #[.int .i64 n] w fun e w' => e = .returned (.string ⟨(Sm.pad n).toArray⟩) ∧ Below w.heap.size w w' := by
  obtain ⟨i0, hi, hz0, hz1, hz2⟩ := info_parts info3_u8
  obtain ⟨z, hz⟩ : ∃ z, z = (119 - n % 64) % 64 := ⟨_, rfl⟩
  have hzi : (55 - (n : Int) % 64 + 64) % 64 = (z : Int) := by omega
  have hz64 : z < 64 := by omega
  have hmk : ∀ wx : World, (Instr.makeSlice 31 (.int .i64 (1 + (z : Int))) (.int .i64 128)).run Tryd.prog wx = .ok (.slice (some ⟨wx.heap.size, 0, none⟩) (1 + z) 128) (wx.alloc (.cells (Lib.byteCells (List.replicate 128 0)).toArray 5)) := fun wx => by
    have h := run_make (P := Tryd.prog) wx 31 5 i0 (.int .u8 0) Tryd.underlying31 hi hz0 .i64 .i64 (1 + (z : Int)) 128 (by omega) (by omega) (by rw [hz2]; omega) (by omega)
    rw [hz1, show (1 + (z : Int)).toNat = 1 + z by omega, show (128 : Int).toNat = 128 from rfl, Sm.made128] at h
    exact h
  have hz0c : (Lib.byteCells (List.replicate 128 0))[0]? = some (.int .u8 0) := rfl
  have HZ := Lib.hid hz
  clear hz
  go_enter Tryd.func40, Tryd.ntmps40
  go_wp2
  have g1 : Below w.heap.size w (w.alloc (.cells ((Lib.byteCells (List.replicate 128 0)).set 0 (.int .u8 128)).toArray 5)) := (Below.refl _ w).alloc (Nat.le_refl _) _
  have g2 : (w.alloc (.cells ((Lib.byteCells (List.replicate 128 0)).set 0 (.int .u8 128)).toArray 5)).ownsRow w.heap.size 5 1 (.slice (some ⟨w.heap.size, 0, none⟩) (1 + z) 128) (1 + z) (Lib.byteCells (128 :: List.replicate z 0 ++ (Sm.be8 (n * 8)).take 0)) := by
    refine ⟨by simp [Lib.byteCells]; omega, .inr ⟨w.heap.size, 128, _, rfl, Nat.le_refl _, heap_alloc_new w _, by omega, by unfold maxLen; omega, by simp [Lib.byteCells], ?_⟩⟩
    rw [List.take_zero, List.append_nil, Nat.mul_one, ← Sm.pad_start z hz64]
  change Code.wp _ _ _ _ (w.alloc (.cells ((Lib.byteCells (List.replicate 128 0)).set 0 (.int .u8 128)).toArray 5))
  generalize w.alloc (.cells ((Lib.byteCells (List.replicate 128 0)).set 0 (.int .u8 128)).toArray 5) = W1 at *
  obtain ⟨N, hN⟩ : ∃ N, N = w.heap.size := ⟨_, rfl⟩
  rw [← hN] at g1 g2 ⊢
  have HN := Lib.hid hN
  clear hN hmk hzi
  go_loopw [4, 16] (fun v i wr => ∃ k : Nat, k ≤ 8 ∧ i = .int .i64 k ∧ v = .slice (some ⟨N, 0, none⟩) (1 + z + k) 128 ∧ wr.ownsRow N 5 1 (.slice (some ⟨N, 0, none⟩) (1 + z + k) 128) (1 + z + k) (Lib.byteCells (128 :: List.replicate z 0 ++ (Sm.be8 (n * 8)).take k)) ∧ Below N w wr) (fun _ i _ => 8 - (intOf i).toNat)
  case atStart => exact ⟨0, by omega, rfl, rfl, g2, g1⟩
  case round =>
    clear g1 g2
    obtain ⟨k, hk, rfl, rfl, hown, hbk⟩ := hrel
    have HO := Lib.hid hown
    clear hown
    by_cases hlt : k < 8
    · have hbs := hbk.size
      have hX : ((n : Int) * 8 / 2 ^ (56 - 8 * k) % 256) = ((UInt8.ofNat (n * 8 / 2 ^ (56 - 8 * k))).toNat : Int) := by
        rw [UInt8.toNat_ofNat']; push_cast; rfl
      have HX := Lib.hid hX
      clear hX
      go_wp2_with (at_builtin; refine wpList_append_fits _ rfl (.tmp 19) (.tmp 28) 31 rfl N 5 i0 1 Tryd.underlying31 hi hz1 N (1 + z + k) 128 _ rfl (HO.out.alloc _) ⟨wr.heap.size, 0, none⟩ 1 1 [.int .u8 ((n : Int) * 8 / 2 ^ (56 - 8 * k) % 256)] rfl rfl ?c1 ?c2 ?c3 ?_)
      case c1 =>
        intro j u hj
        match j, hj with
        | 0, hj => simp at hj; subst hj; simp [Addr.add]
      case c2 => intro u hu; simp at hu; subst hu; rfl
      case c3 => omega
      · intro w1 hown' hgrow
        rw [HX.out] at hown' hgrow
        have ho2 : w1.ownsRow N 5 1 (.slice (some ⟨N, 0, none⟩) (1 + z + (k + 1)) 128) (1 + z + (k + 1)) (Lib.byteCells (128 :: List.replicate z 0 ++ (Sm.be8 (n * 8)).take (k + 1))) := by
          rw [Sm.be8_step _ _ hlt, ← List.append_assoc, Lib.byteCells_append]
          exact hown'
        have HO2 := Lib.hid ho2
        have hb2 : Below N w w1 := (hbk.alloc (by rw [HN.out]; exact hbs) _).grown hgrow (by rw [HN.out]; simp; omega) (fun j hj => by have := Option.some.inj hj; omega)
        clear hown' hgrow ho2
        go_wp2
        go_roundw
        case rel => exact ⟨k + 1, by omega, by go_num, rfl, HO2.out, hb2⟩
        case measure => simp [intOf]; omega
    · obtain rfl : k = 8 := by omega
      have hle : (Sm.be8 (n * 8)).take 8 = Sm.be8 (n * 8) := List.take_of_length_le (by rw [Sm.be8_length]; exact Nat.le_refl _)
      have hpad : 128 :: List.replicate z 0 ++ Sm.be8 (n * 8) = Sm.pad n := by rw [HZ.out]; rfl
      have hlen : (Sm.pad n).length = 1 + z + 8 := by rw [Sm.pad_length, HZ.out]; omega
      have h := HO.out
      rw [hle, hpad] at h
      have hcv : ∀ wx, wx = wr → (convert 31 9 (.slice (some ⟨N, 0, none⟩) (1 + z + 8) 128)).run Tryd.prog wx = .ok (.string ⟨(Sm.pad n).toArray⟩) wx := by
        rintro wx rfl
        have e := run_convert_bytes_back (P := Tryd.prog) wx 31 9 5 ⟨N, 0, none⟩ 128 (Sm.pad n) Tryd.underlying31 Tryd.underlying5 Tryd.underlying9 (fun j hj => h.cells (g := N) rfl j _ (by simp [Lib.byteCells, hj]))
        rw [hlen] at e
        exact e
      have hcv2 := hcv wr rfl
      clear hcv h hle hpad hlen
      go_wp2
      go_ret
      exact ⟨rfl, by rw [← HN.out]; exact hbk⟩
end Go.Proofs.YtkijdpgdniaagaaDoor
