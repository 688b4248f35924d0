/-
  What disk's closed and Close make.
-/
import Derived.Test.YtnmagfodjcookaaGreatDkSum
import Derived.Room.AppendFits
namespace Go.Proofs.YtnmagfodjcookaaGreat
open Go.RowKit
namespace Dk
theorem made64 : madeCells (Value.int .u8 0).cells (64 * 1) = (Lib.byteCells (List.replicate 64 0)).toArray := by kernel_rfl
theorem strCells_byte (s : ByteArray) : Lib.strCells s = Lib.byteCells s.data.toList := rfl
theorem low8 (n : Nat) : UInt8.ofNat (n % 256) = UInt8.ofNat n := UInt8.toNat_inj.1 (by rw [UInt8.toNat_ofNat', UInt8.toNat_ofNat']; omega)
theorem four_step {S : Nat} {k : Nat} (hk : k < 4) : (four S).take (k + 1) = (four S).take k ++ [UInt8.ofNat (S / 2 ^ (8 * k))] := by
  match k, hk with
  | 0, _ => simp [four, low8]
  | 1, _ => simp [four, low8]
  | 2, _ => simp [four, low8]
  | 3, _ => simp [four, low8]
set_option maxRecDepth 100000 in
theorem low_cast (S k : Nat) : ((S : Int) / 2 ^ (8 * k) % 256) = ((UInt8.ofNat (S / 2 ^ (8 * k))).toNat : Int) := by
  rw [UInt8.toNat_ofNat']; push_cast; rfl
end Dk
set_option maxRecDepth 100000 in
set_option maxHeartbeats 1500000 in
theorem dkClosed_any (w : World) (s : ByteArray) (hs : s.size = 60) : Calls Tryz.prog 79 #[.string s] w fun e w' => e = .returned (.string ⟨(Dk.closed s.data.toList).toArray⟩) ∧ Below w.heap.size w w' := by
  obtain ⟨i0, hi, hz0, hz1, hz2⟩ := info_parts info3_u8
  have hmk : ∀ wx : World, (Instr.makeSlice 65 (.int .i64 0) (.int .i64 64)).run Tryz.prog wx = .ok (.slice (some ⟨wx.heap.size, 0, none⟩) 0 64) (wx.alloc (.cells (Lib.byteCells (List.replicate 64 0)).toArray 5)) := fun wx => by
    have h := run_make (P := Tryz.prog) wx 65 5 i0 (.int .u8 0) Tryz.underlying65 hi hz0 .i64 .i64 0 64 (by omega) (by omega) (by rw [hz2]; omega) (by omega)
    rw [hz1, show (0 : Int).toNat = 0 from rfl, show (64 : Int).toNat = 64 from rfl, Dk.made64] at h
    exact h
  go_enter Tryz.func79, Tryz.ntmps79
  go_upto_region 2 with (fail)
  have g1 : Below w.heap.size w (w.alloc (.cells (Lib.byteCells (List.replicate 64 0)).toArray 5)) := (Below.refl _ w).alloc (Nat.le_refl _) _
  have g2 : (w.alloc (.cells (Lib.byteCells (List.replicate 64 0)).toArray 5)).ownsRow w.heap.size 5 1 (.slice (some ⟨w.heap.size, 0, none⟩) 0 64) 0 [] := by
    refine ⟨by simp, .inr ⟨w.heap.size, 64, _, rfl, Nat.le_refl _, heap_alloc_new w _, by omega, by unfold maxLen; omega, by simp [Lib.byteCells], ?_⟩⟩
    simp
  change Code.wp _ _ _ _ (w.alloc (.cells (Lib.byteCells (List.replicate 64 0)).toArray 5))
  generalize w.alloc (.cells (Lib.byteCells (List.replicate 64 0)).toArray 5) = w1 at *
  obtain ⟨N, hN⟩ : ∃ N, N = w.heap.size := ⟨_, rfl⟩
  rw [← hN] at g1 g2 ⊢
  have HN := Lib.hid hN
  clear hN hmk
  have HS := Lib.hid hs
  clear hs
  go_wp2_with (at_builtin; refine Lib.wpList_append_fits_string _ rfl (.tmp 7) (.tmp 8) 65 9 rfl N 5 i0 Tryz.underlying65 Tryz.underlying9 hi hz1 (some ⟨N, 0, none⟩) 0 64 [] rfl g2 s rfl (by omega) (by have := HS.out; omega) ?_)
  intro w2 ho2 hg2
  rw [Dk.strCells_byte] at ho2
  rw [show s.size = 60 from HS.out] at ho2 ⊢
  have b2 : Below N w w2 := g1.grown hg2 (by have := g1.size; have := HN.out; omega) (fun j hj => Nat.le_of_eq (by simpa [Value.ownBlock] using hj))
  clear g1 g2 hg2
  go_wp2_with fail
  refine (dkSum_any w2 s (by have := HS.out; omega)).mono ?_
  rintro e w' ⟨rfl, rfl⟩
  obtain ⟨S, hS⟩ : ∃ S, S = Dk.sum s.data.toList := ⟨_, rfl⟩
  have hSl : S < 4294967296 := by rw [hS]; exact Dk.sum_lt _
  have HSS := Lib.hid hS
  rw [← hS]
  clear hS
  go_wp2_with fail
  go_loopw [3, 12] (fun v i wr => ∃ k : Nat, k ≤ 4 ∧ i = .int .i64 k ∧ v = .slice (some ⟨N, 0, none⟩) (60 + k) 64 ∧ wr.ownsRow N 5 1 (.slice (some ⟨N, 0, none⟩) (60 + k) 64) (60 + k) (Lib.byteCells (s.data.toList ++ (Dk.four S).take k)) ∧ Below N w wr) (fun _ i _ => 4 - (intOf i).toNat)
  case atStart => exact ⟨0, by omega, rfl, rfl, by simpa using ho2, b2⟩
  case round =>
    clear ho2 b2
    obtain ⟨k, hk, rfl, rfl, hown, hbk⟩ := hrel
    have HO := Lib.hid hown
    clear hown
    by_cases hlt : k < 4
    · have hki : (k : Int) < 4 := by omega
      have hbs := hbk.size
      have v1 : IntKind.i64.wrap (8 * (k : Int)) = 8 * (k : Int) := IntWalk.i64_in _ (by omega)
      have p1 : (0 : Int) ≤ 8 * (k : Int) := by omega
      have p2 : ¬ 8 * (k : Int) < 0 := by omega
      have HX := Lib.hid (Dk.low_cast S k)
      go_wp2_with (at_builtin; refine wpList_append_fits _ rfl (.tmp 15) (.tmp 21) 65 rfl N 5 i0 1 Tryz.underlying65 hi hz1 N (60 + k) 64 _ rfl (HO.out.alloc _) ⟨wr.heap.size, 0, none⟩ 1 1 [.int .u8 ((S : Int) / 2 ^ (8 * k) % 256)] rfl rfl ?c1 ?c2 ?c3 ?_)
      case c2 => rfl
      case c3 => omega
      · intro w4 hown' hgrow
        rw [HX.out] at hown' hgrow
        have ho2 : w4.ownsRow N 5 1 (.slice (some ⟨N, 0, none⟩) (60 + (k + 1)) 64) (60 + (k + 1)) (Lib.byteCells (s.data.toList ++ (Dk.four S).take (k + 1))) := by
          rw [Dk.four_step hlt, ← List.append_assoc, Lib.byteCells_append]
          exact hown'
        have HO2 := Lib.hid ho2
        have hb2 : Below N w w4 := (hbk.alloc (by rw [HN.out]; exact hbs) _).grown hgrow (by rw [HN.out]; simp; omega) (fun j hj => by have := Option.some.inj hj; omega)
        clear hown' hgrow ho2
        go_wp2
        go_roundw
        case rel => exact ⟨k + 1, by omega, by go_num, rfl, HO2.out, hb2⟩
        case measure => simp [intOf]; omega
    · have hki : ¬ (k : Int) < 4 := by omega
      obtain rfl : k = 4 := by omega
      have h := HO.out
      have hlen : (Dk.closed s.data.toList).length = 60 + 4 := by rw [Dk.closed_length, Array.length_toList]; exact congrArg (· + 4) HS.out
      rw [show s.data.toList ++ (Dk.four S).take 4 = Dk.closed s.data.toList by rw [HSS.out]; rfl] at h
      have hcv : ∀ wx, wx = wr → (convert 65 9 (.slice (some ⟨N, 0, none⟩) (60 + 4) 64)).run Tryz.prog wx = .ok (.string ⟨(Dk.closed s.data.toList).toArray⟩) wx := by
        rintro wx rfl
        have e := run_convert_bytes_back (P := Tryz.prog) wx 65 9 5 ⟨N, 0, none⟩ 64 (Dk.closed s.data.toList) Tryz.underlying65 Tryz.underlying5 Tryz.underlying9 (fun j hj => h.cells (g := N) rfl j _ (by simp [Lib.byteCells, hj]))
        rw [hlen] at e
        exact e
      have hcv2 := hcv wr rfl
      clear hcv h hlen
      go_wp2
      go_ret
      exact ⟨rfl, by rw [← HN.out]; exact hbk⟩
end Go.Proofs.YtnmagfodjcookaaGreat
