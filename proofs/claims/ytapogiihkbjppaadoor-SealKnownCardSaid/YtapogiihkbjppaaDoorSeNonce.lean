/-
  What seal's nonceOf makes: a nonce of two numbers.
-/
import Derived.Test.YtapogiihkbjppaaDoorSeMath
import Derived.Test.YtapogiihkbjppaaDoorMAes2
namespace Go.Proofs.YtapogiihkbjppaaDoor
open Go.RowKit
namespace Se
theorem zero12 : (Tryd.prog.info? 47).map (fun i => (i.zero, i.size)) = some (some (.agg (Sm.rowB 12 [])), 12) := by kernel_rfl
theorem shr_byte (x e : Nat) : Value.int .u8 ((x : Int) / 2 ^ e % 256) = .int .u8 ((UInt8.ofNat (x / 2 ^ e)).toNat : Int) := by
  rw [UInt8.toNat_ofNat', Int.natCast_emod, Int.natCast_ediv, Int.natCast_pow]
  rfl
def n1 (boot k : Nat) : List UInt8 := (List.range k).map fun i => UInt8.ofNat (boot / 2 ^ (24 - 8 * i))
def n2 (boot n k : Nat) : List UInt8 := n1 boot 4 ++ (List.range k).map fun i => UInt8.ofNat (n / 2 ^ (56 - 8 * i))
theorem n1_length (boot k : Nat) : (n1 boot k).length = k := by simp [n1]
theorem n2_length (boot n k : Nat) : (n2 boot n k).length = 4 + k := by simp [n2, n1]
theorem n1_snoc (boot k : Nat) : n1 boot (k + 1) = n1 boot k ++ [UInt8.ofNat (boot / 2 ^ (24 - 8 * k))] := Sm.range_snoc
theorem n2_snoc (boot n k : Nat) : n2 boot n (k + 1) = n2 boot n k ++ [UInt8.ofNat (n / 2 ^ (56 - 8 * k))] := by
  unfold n2
  rw [Sm.range_snoc, List.append_assoc]
end Se

set_option maxRecDepth 100000 in
set_option maxHeartbeats 2000000 in
theorem nonceOf_any (w : World) (boot n : Nat) :
    Calls Tryd.prog 47 #[.int .u32 boot, .int .u64 n] w fun e w' => e = .returned (.agg (Lib.byteCells (Se.nonce boot n)).toArray) ∧ Below w.heap.size w w' := by
  obtain ⟨z0, hz0⟩ : ∃ z, z = Sm.rowB 12 [] := ⟨_, rfl⟩
  have hz1 := (zero_of_info Se.zero12).1
  rw [← hz0] at hz1
  have g1 : (w.alloc (.cells z0 47)).heap[w.heap.size]? = some (.cells (Sm.rowB 12 []) 47 (0, 0)) := by rw [← hz0]; exact heap_alloc_new w _
  have b1 : Below w.heap.size w (w.alloc (.cells z0 47)) := (Below.refl _ w).alloc (Nat.le_refl _) _
  clear hz0
  go_enter Tryd.func47, Tryd.ntmps47
  go_upto_region 1 with (fail)
  generalize w.alloc (.cells z0 47) = W2 at *
  clear hz1
  obtain ⟨N, hN⟩ : ∃ N, N = w.heap.size := ⟨_, rfl⟩
  rw [← hN] at g1 b1 ⊢
  have HN := Lib.hid hN
  clear hN
  go_wp2_with fail
  go_loopw [7] (fun i wr => ∃ k : Nat, k ≤ 4 ∧ i = .int .i64 k ∧ wr.heap[N]? = some (.cells (Sm.rowB 12 (Se.n1 boot k)) 47 (0, 0)) ∧ Below N w wr) (fun i _ => 4 - (intOf i).toNat)
  case atStart => exact ⟨0, by omega, rfl, g1, b1⟩
  case round =>
    clear g1 b1
    obtain ⟨k, hk, rfl, hr1, hbk⟩ := hrel
    have HR1 := Lib.hid hr1
    clear hr1
    by_cases hlt : k < 4
    · have q1 : (k : Int) < 4 := by omega
      have hl := Se.n1_length boot k
      obtain ⟨old, hold⟩ := Sm.rowB_some (n := 12) (l := Se.n1 boot k) k (by omega) (by omega)
      have hold := Sm.cells_of HR1.out k old hold
      have fz := Sm.free_of HR1.out k
      have v1 : IntKind.i64.wrap (8 * (k : Int)) = 8 * (k : Int) := IntWalk.i64_in _ (by omega)
      have v2 : IntKind.i64.wrap (24 - 8 * (k : Int)) = 24 - 8 * (k : Int) := IntWalk.i64_in _ (by omega)
      have p1 : 0 ≤ 24 - 8 * (k : Int) := by omega
      have p2 : 8 * (k : Int) ≤ 24 := by omega
      go_wp2_with fail
      go_roundw
      case rel =>
        refine ⟨k + 1, by omega, by go_num, ?_, hbk.setCell (p := ⟨N, k, none⟩) (Nat.le_refl _) _⟩
        have e := Sm.rowB_set (n := 12) (l := Se.n1 boot k) (by omega) (UInt8.ofNat (boot / 2 ^ (24 - 8 * k)))
        rw [hl] at e
        rw [Se.n1_snoc, ← e, Se.shr_byte]
        exact Sm.heap_set HR1.out k _
      case measure => simp [intOf]; omega
    · obtain rfl : k = 4 := by omega
      have q1 : ¬ ((4 : Nat) : Int) < 4 := by omega
      have hr : wr.heap[N]? = some (.cells (Sm.rowB 12 (Se.n2 boot n 0)) 47 (0, 0)) := by rw [HR1.out]; simp [Se.n2]
      have HR := Lib.hid hr
      clear hr HR1 hlt hk
      go_wp2_with fail
      obtain ⟨w1, hw1⟩ : ∃ w1, w1 = wr := ⟨_, rfl⟩
      rw [← hw1] at HR hbk ⊢
      clear hw1
      go_loopw [19] (fun i wr => ∃ k : Nat, k ≤ 8 ∧ i = .int .i64 k ∧ wr.heap[N]? = some (.cells (Sm.rowB 12 (Se.n2 boot n k)) 47 (0, 0)) ∧ Below N w wr) (fun i _ => 8 - (intOf i).toNat)
      case atStart => exact ⟨0, by omega, rfl, HR.out, hbk⟩
      case round =>
        clear HR hbk
        obtain ⟨k, hk, rfl, hr1, hbk⟩ := hrel
        have HR1 := Lib.hid hr1
        clear hr1
        by_cases hlt : k < 8
        · have q1 : (k : Int) < 8 := by omega
          have hl := Se.n2_length boot n k
          obtain ⟨old, hold⟩ := Sm.rowB_some (n := 12) (l := Se.n2 boot n k) (4 + k) (by omega) (by omega)
          have hold := Sm.cells_of HR1.out (4 + k) old hold
          have fz := Sm.free_of HR1.out (4 + k)
          have v0 : IntKind.i64.wrap (4 + (k : Int)) = 4 + (k : Int) := IntWalk.i64_in _ (by omega)
          have v1 : IntKind.i64.wrap (8 * (k : Int)) = 8 * (k : Int) := IntWalk.i64_in _ (by omega)
          have v2 : IntKind.i64.wrap (56 - 8 * (k : Int)) = 56 - 8 * (k : Int) := IntWalk.i64_in _ (by omega)
          have p0 : (4 + (k : Int)).toNat = 4 + k := by omega
          have p1 : 0 ≤ 56 - 8 * (k : Int) := by omega
          have p2 : 8 * (k : Int) ≤ 56 := by omega
          have p3 : 0 ≤ 4 + (k : Int) := by omega
          have p4 : 4 + (k : Int) < 12 := by omega
          go_wp2_with fail
          go_roundw
          case rel =>
            refine ⟨k + 1, by omega, by go_num, ?_, hbk.setCell (p := ⟨N, 4 + k, none⟩) (Nat.le_refl _) _⟩
            have e := Sm.rowB_set (n := 12) (l := Se.n2 boot n k) (by omega) (UInt8.ofNat (n / 2 ^ (56 - 8 * k)))
            rw [hl] at e
            rw [Se.n2_snoc, ← e, Se.shr_byte]
            exact Sm.heap_set HR1.out (4 + k) _
          case measure => simp [intOf]; omega
        · obtain rfl : k = 8 := by omega
          have q1 : ¬ ((8 : Nat) : Int) < 8 := by omega
          have hr := HR1.out
          rw [Sm.rowB_full (by rw [Se.n2_length])] at hr
          have hsz : (Lib.byteCells (Se.nonce boot n)).toArray.size = 12 := by rw [Sm.bytes_size, Se.nonce_length]
          have hone := Sm.bytes_one (Se.nonce boot n)
          obtain ⟨cs, hcs⟩ : ∃ c, c = (Lib.byteCells (Se.nonce boot n)).toArray := ⟨_, rfl⟩
          have hr2 : wr.heap[N]? = some (.cells cs 47 (0, 0)) := by rw [hcs]; exact hr
          rw [← hcs] at hsz hone
          have HR3 := Lib.hid hr2
          have HC := Lib.hid hcs
          clear hcs hr hr2 HR1
          go_wp2_with (first | (with_reducible refine wpList_load_row rfl 47 (.tmp 4) rfl N rfl 47 cs (0, 0) _ (by exact HR3.out) Tryd.underlying47 rfl (Ae.info12 hsz) ?_) | (with_reducible refine wpList_store_row rfl 47 (.tmp 4) (.tmp 32) rfl N cs rfl rfl 47 _ (by exact HR3.out) (Ae.info12 hsz) rfl hone ?_))
          exact bodyPost_ret (v := .agg cs) (results_cell_row rfl _ _ N 47 _ (0, 0) _ rfl (setRow_heap _ N _ _ _ _ HR3.out) Tryd.underlying47 rfl (Ae.info12 hsz)) rfl ⟨by rw [HC.out], by rw [← HN.out]; exact Sm.below_setRow hbk (Nat.le_refl _) _⟩
end Go.Proofs.YtapogiihkbjppaaDoor
