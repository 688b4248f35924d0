/-
  ring's key: the key i, made when it is first asked for.
-/
import Derived.Test.YtapogiihkbjppaaGreatDoorRiSlot
import Derived.Conc.MuLone
namespace Go.Proofs.YtapogiihkbjppaaGreatDoor
open Go.RowKit
namespace Ri
/-- What a made key's cells are, between. -/
def made1 (k : List UInt8) : Array Value := ([Value.int .u32 0, .int .i32 1, .int .u32 0] ++ Lib.byteCells k).toArray
theorem made0_take : (made0.setIfInBounds 1 (.int .i32 1)).toList.take 3 = [Value.int .u32 0, .int .i32 1, .int .u32 0] := by kernel_rfl
theorem made1_of (k : List UInt8) : ((made0.setIfInBounds 1 (.int .i32 1)).toList.take 3 ++ Lib.byteCells k).toArray = made1 k := by
  rw [made0_take]
  unfold made1
  with_reducible rfl
theorem made_end (k : List UInt8) : ((made1 k).setIfInBounds 0 (.int .u32 1)).setIfInBounds 1 (.int .i32 0) = ([Value.int .u32 1, .int .i32 0, .int .u32 0] ++ Lib.byteCells k).toArray := by
  apply Array.ext'
  simp [made1]
theorem enter_make (caps : Array Value) : (callFunc 54 caps).run Tryz.prog = fun w => .ok (.enter 54 caps) w :=
  funext fun w => Go.MuLone.run_callFunc_enter Tryz.func54 (by kernel_rfl) rfl caps w
/-- What key answers. -/
def KeyPost (w : World) (r m : Nat) (M : ByteArray) (boot n : Nat) (cur i : Int) (e : Ending) (w' : World) : Prop :=
  e = .returned (.agg (Lib.byteCells (key M.data.toList i)).toArray) ∧ RingAt w' r m M boot n cur ∧ w.grownBy w' (some m)
theorem made_block {w : World} {g : Nat} {k : List UInt8} (h : MadeAt w g k) : w.rangeAt g 3 (Lib.byteCells k) := fun j v hv => by
  refine Sm.cells_of h (3 + j) v ?_
  rw [List.getElem?_toArray, List.getElem?_append_right (by simp)]
  simpa using hv
end Ri

set_option maxRecDepth 100000 in
set_option maxHeartbeats 1600000 in
theorem rgkey_any {w : World} (hH : Sm.HAt w) (hK : Sm.KAt w) {r m : Nat} {M : ByteArray} (hM : M.size ≤ 1152921504606846976) {boot n : Nat} {cur : Int} (h : Ri.RingAt w r m M boot n cur) (i : Int) :
    Calls Tryz.prog 29 #[.pointer (some ⟨r, 0, none⟩), .int .i64 i] w (Ri.KeyPost w r m M boot n cur i) := by
  obtain ⟨zk, hzk⟩ : ∃ z, z = Sm.rowB 32 [] := ⟨_, rfl⟩
  have hzzk := (zero_of_info Ri.zeroKey).1
  rw [← hzk] at hzzk
  have hzks : zk.size = 32 := by rw [hzk]; exact Sm.rowB_size (by simp)
  obtain ⟨N, hN⟩ : ∃ N, N = w.heap.size := ⟨_, rfl⟩
  obtain ⟨w3, hw3⟩ : ∃ x, x = ((w.alloc (.cells #[.pointer (some ⟨r, 0, none⟩)] 22)).alloc (.cells #[.int .i64 i] 3)).alloc (.cells zk 50) := ⟨_, rfl⟩
  have b3 : Below N w w3 := by
    rw [hw3, hN]; exact (((Below.refl _ w).alloc (Nat.le_refl _) _).alloc (by simp) _).alloc (by simp; omega) _
  have s3 : w3.heap.size = N + 3 := by rw [hw3, hN]; simp
  have p0 : w3.heap[N]? = some (.cells #[.pointer (some ⟨r, 0, none⟩)] 22 (0, 0)) := by
    rw [hw3, Below.heap_alloc _ _ _ (by simp; omega), Below.heap_alloc _ _ _ (by simp; omega), hN]; exact heap_alloc_new w _
  have p1 : w3.heap[N + 1]? = some (.cells #[.int .i64 i] 3 (0, 0)) := by
    rw [hw3, Below.heap_alloc _ _ _ (by simp; omega), hN]
    simpa using heap_alloc_new (w.alloc (.cells #[.pointer (some ⟨r, 0, none⟩)] 22)) (.cells #[.int .i64 i] 3)
  have p2 : w3.heap[N + 2]? = some (.cells zk 50 (0, 0)) := by
    rw [hw3, hN]
    simpa using heap_alloc_new ((w.alloc (.cells #[.pointer (some ⟨r, 0, none⟩)] 22)).alloc (.cells #[.int .i64 i] 3)) (.cells zk 50)
  have SL := Lib.hid (rgSlot_any (h.below b3 (by omega)) i)
  have H := Lib.hid h
  have HH := Lib.hid hH
  have HK := Lib.hid hK
  have HN := Lib.hid hN
  have P0 := Lib.hid p0
  have P1 := Lib.hid p1
  have P2 := Lib.hid p2
  have hlt := h.lt
  have C0 : Hid (w3.cell? ⟨N, 0, none⟩ = some (.pointer (some ⟨r, 0, none⟩))) := Sm.cells_of p0 0 _ rfl
  have C1 : Hid (w3.cell? ⟨N + 1, 0, none⟩ = some (.int .i64 i)) := Sm.cells_of p1 0 _ rfl
  clear hzk p0 p1 p2 h hH hK
  go_enter Tryz.func29, Tryz.ntmps29
  go_upto_region 1 with (fail)
  rw [← hw3, ← HN.out]
  clear hzzk hw3 hN
  have c0 := C0.out
  have c1 := C1.out
  go_wp2_with fail
  refine (SL.out).mono ?_
  intro e w4 hs
  obtain ⟨g, rfl, k4, hr4, hcase⟩ := hs
  have hmN : m < N := by have := hlt.2; have := HN.out; omega
  have q0 := (k4.block N (by omega) (fun e => by have := Option.some.inj e; omega)).trans P0.out
  have q1 := (k4.block (N + 1) (by omega) (fun e => by have := Option.some.inj e; omega)).trans P1.out
  have q2 := (k4.block (N + 2) (by omega) (fun e => by have := Option.some.inj e; omega)).trans P2.out
  have s4 := k4.size
  go_upto_region 2 with (fail)
  obtain ⟨K, hK'⟩ : ∃ K, K = w4.heap.size := ⟨_, rfl⟩
  rw [← hK']
  have q3 := heap_alloc_new w4 (.cells #[.pointer (some ⟨g, 0, none⟩)] 106)
  rw [← hK'] at q3
  have b5 : Below K w4 (w4.alloc (.cells #[.pointer (some ⟨g, 0, none⟩)] 106)) := by rw [hK']; exact (Below.refl _ w4).alloc (Nat.le_refl _) _
  have s5 : (w4.alloc (.cells #[.pointer (some ⟨g, 0, none⟩)] 106)).heap.size = K + 1 := by rw [hK']; simp
  have q0 := (b5.block N (by omega)).trans q0
  have q1 := (b5.block (N + 1) (by omega)).trans q1
  have q2 := (b5.block (N + 2) (by omega)).trans q2
  have r5 := (b5.block r (by have := Sm.lt_of hr4; omega)).trans hr4
  have c3 : (w4.alloc (.cells #[.pointer (some ⟨g, 0, none⟩)] 106)).cell? ⟨K, 0, none⟩ = some (.pointer (some ⟨g, 0, none⟩)) := Sm.cells_of q3 0 _ rfl
  have hm2 := (H.out.two HH.out HK.out)
  have lm4 : m < w4.heap.size := by have := b3.size; omega
  have e0 : N + 1 + 1 = N + 2 := rfl
  have DO : Hid (Calls Tryz.prog 53 #[.pointer (some ⟨g, 0, none⟩), .func (.func 54) #[] #[.pointer (some ⟨N, 0, none⟩), .pointer (some ⟨N + 1, 0, none⟩), .pointer (some ⟨K, 0, none⟩)]] (w4.alloc (.cells #[.pointer (some ⟨g, 0, none⟩)] 106)) fun e w' =>
      e = .returned (.tuple #[]) ∧ Ri.MadeAt w' g (Ri.key M.data.toList i) ∧ Ri.KeysAt w' m M.data.toList ∧ w'.heap[r]? = some (.cells (Ri.cells M boot n cur m) 66 (0, 0)) ∧ w'.heap[N + 2]? = some (.cells zk 50 (0, 0)) ∧
        w'.heap[K]? = some (.cells #[.pointer (some ⟨g, 0, none⟩)] 106 (0, 0)) ∧ w.grownBy w' (some m)) := by
    have g3 : w.grownBy w3 (some m) := ⟨b3.os, b3.tape, b3.output, b3.size, fun b hb _ => b3.block b (by have := HN.out; omega)⟩
    have g4 : w.grownBy w4 (some m) := Sm.grown_trans g3 k4
    have g5 : w.grownBy (w4.alloc (.cells #[.pointer (some ⟨g, 0, none⟩)] 106)) (some m) :=
      Sm.grown_trans g4 ⟨b5.os, b5.tape, b5.output, b5.size, fun b hb _ => b5.block b (by omega)⟩
    rcases hcase with ⟨hmade, hkeys⟩ | ⟨hNg, hg4, es, c, hm4, hes⟩
    · have hg5 : Ri.MadeAt (w4.alloc (.cells #[.pointer (some ⟨g, 0, none⟩)] 106)) g (Ri.key M.data.toList i) := (b5.block g (by have := Sm.lt_of hmade; omega)).trans hmade
      have keys5 : Ri.KeysAt (w4.alloc (.cells #[.pointer (some ⟨g, 0, none⟩)] 106)) m M.data.toList := hkeys.keep (b5.block m (by omega)) (fun g' _ hg' => b5.block g' (by have := Sm.lt_of hg'; omega))
      exact (Ri.do_done ⟨g, 0, none⟩ _ _ (Sm.cells_of hg5 0 _ rfl)).mono fun e w' ⟨h1, h2⟩ => by
        subst h2
        exact ⟨h1, hg5, keys5, r5, q2, q3, g5⟩
    · have hg5 := (b5.block g (by have := Sm.lt_of hg4; omega)).trans hg4
      have low : Below 2 w (w4.alloc (.cells #[.pointer (some ⟨g, 0, none⟩)] 106)) := ⟨g5.os, g5.tape, g5.output, g5.size, fun b hb => g5.block b (by omega) (fun e => by have := Option.some.inj e; omega)⟩
      have low' : Below 2 w ((w4.alloc (.cells #[.pointer (some ⟨g, 0, none⟩)] 106)).setCell ⟨g, 1, none⟩ (.int .i32 1)) := low.setCell (by show 2 ≤ g; omega) _
      have hgs := Sm.heap_set hg5 1 (.int .i32 1)
      have far : ∀ b, b ≠ g → ((w4.alloc (.cells #[.pointer (some ⟨g, 0, none⟩)] 106)).setCell ⟨g, 1, none⟩ (.int .i32 1)).heap[b]? = (w4.alloc (.cells #[.pointer (some ⟨g, 0, none⟩)] 106)).heap[b]? := fun b hb => Below.heap_setCell _ _ _ _ hb
      have n0 := Ri.ne_type q0 hg5 Ri.types_made.1
      have n1 := Ri.ne_type q1 hg5 Ri.types_made.2.1
      have n2 := Ri.ne_type q2 hg5 (show 50 ≠ 113 by decide)
      have n3 := Ri.ne_type q3 hg5 Ri.types_made.2.2.1
      have nr := Ri.ne_type r5 hg5 Ri.types_made.2.2.2
      have hm5 := (b5.block m (by omega)).trans hm4
      have nm := Ri.ne_map hg5 hm5
      have F := rgMake_any (HH.out.low low' (by decide)) (HK.out.low low' (by decide)) (by have := low'.size; omega) M hM i ((far _ n0).trans q0) ((far _ n1).trans q1) ((far _ n3).trans q3) ((far _ nr).trans r5) (show (Ri.cells M boot n cur m)[0]? = some (.string M) from rfl) hgs (by rw [Array.size_setIfInBounds]; exact Ri.made0_size)
      rw [Ri.made1_of] at F
      have D := Ri.do_first (caps := #[.pointer (some ⟨N, 0, none⟩), .pointer (some ⟨N + 1, 0, none⟩), .pointer (some ⟨K, 0, none⟩)]) hg5 rfl rfl rfl rfl (Ri.enter_make _) F
      refine D.mono fun e w' ⟨h1, h2, h3⟩ => ?_
      rw [Ri.made_end] at h2
      refine ⟨h1, h2, ?_, (h3.block r (Sm.lt_of r5) (fun e => nr (Option.some.inj e))).trans r5, (h3.block _ (Sm.lt_of q2) (fun e => n2 (Option.some.inj e))).trans q2, (h3.block _ (Sm.lt_of q3) (fun e => n3 (Option.some.inj e))).trans q3, ?_⟩
      · refine ⟨es, c, (h3.block m (Sm.lt_of hm5) (fun e => nm (Option.some.inj e).symm)).trans hm5, fun e hx => ?_⟩
        rcases hes e hx with ⟨j, g', a, b, hg'⟩ | ⟨a, b⟩
        · have l3 : g' < w3.heap.size := Sm.lt_of hg'
          have ng : g' ≠ g := by omega
          exact ⟨j, g', a, b, (h3.block g' (by omega) (fun e => ng (Option.some.inj e))).trans ((b5.block g' (by omega)).trans ((k4.block g' l3 (fun e => by have h9 := Option.some.inj e; have := k4.block; exact absurd h9 (by rintro rfl; have h8 := H.out.keys; obtain ⟨_, _, h7, _⟩ := h8; have h6 := (b3.block g' (by have := Sm.lt_of h7; have := HN.out; omega)).trans h7; rw [show w3.heap[g']? = _ from hg'] at h6; cases h6))).trans hg'))⟩
        · exact ⟨i, g, a, b, h2⟩
      · refine ⟨h3.os.trans g5.os, h3.tape.trans g5.tape, h3.output.trans g5.output, Nat.le_trans g5.size h3.size, fun b hb hn => ?_⟩
        have hbg : b ≠ g := by have := b3.size; omega
        exact (h3.block b (by have := g5.size; omega) (fun e => hbg (Option.some.inj e))).trans (g5.block b hb hn)
  have hmf : ∀ (fn : Fn) (first cap : Array Value) (w : World), (Instr.makeFunc fn first cap).run Tryz.prog w = .ok (.func fn first cap) w := fun _ _ _ _ => rfl
  obtain ⟨co, hco⟩ : ∃ c, c = Lib.byteCells (Ri.key M.data.toList i) := ⟨_, rfl⟩
  have hcol : co.length = 32 := by rw [hco, Lib.byteCells_length, Ri.key_length]
  have hone : co.toArray.all (·.oneCell') = true := by rw [hco]; exact Sm.bytes_one _
  have hick := Ri.infoKey hcol
  have hickl : (Tryz.prog.info? 50).map (·.size) = some co.length := by rw [hcol]; kernel_rfl
  have HCO := Lib.hid hco
  clear hK' hcase hco q0 q1 q2 q3 b5 s5 r5 k4 hr4 hm2 lm4 e0 hmN s4 c0 c1 C0 C1 P0 P1 P2 SL
  rw [show N + 1 + 1 = N + 2 from rfl]
  generalize w4.alloc (.cells #[.pointer (some ⟨g, 0, none⟩)] 106) = w5 at *
  go_wp2_with fail
  refine (DO.out).mono ?_
  rintro e w6 ⟨rfl, m6, y6, r6, z6, x6, g6⟩
  have HM6 := Lib.hid m6
  have HY6 := Lib.hid y6
  have HR6 := Lib.hid r6
  have HZ6 := Lib.hid z6
  have HG6 := Lib.hid g6
  have hra := Ri.made_block m6
  rw [← HCO.out] at hra
  have HRA := Lib.hid hra
  have c6 : w6.cell? ⟨K, 0, none⟩ = some (.pointer (some ⟨g, 0, none⟩)) := Sm.cells_of x6 0 _ rfl
  clear m6 y6 r6 z6 g6 hra x6 DO
  go_wp2_with (first | (with_reducible refine wpList_load_mid rfl 50 (.tmp 16) rfl g 3 rfl co _ (by exact HRA.out) Tryz.underlying50 rfl hickl ?_) | (with_reducible refine wpList_store_row rfl 50 (.tmp 4) (.tmp 17) rfl (N + 2) co.toArray rfl rfl 50 _ (by exact HZ6.out) hick (by rw [hzks, List.size_toArray, hcol]) hone ?_))
  have nz := Ri.ne_type HZ6.out HR6.out (show 50 ≠ 66 by decide)
  have kfin : w.grownBy (w6.setRow (N + 2) co.toArray) (some m) := ⟨HG6.out.os, HG6.out.tape, HG6.out.output, by rw [size_setRow]; exact HG6.out.size, fun b hb hn => by
    rw [setRow_other _ _ _ _ (by have := HN.out; omega)]; exact HG6.out.block b hb hn⟩
  refine bodyPost_ret (v := .agg co.toArray) (results_cell_row rfl _ _ (N + 2) 50 _ (0, 0) _ rfl (setRow_heap _ (N + 2) _ _ _ _ HZ6.out) Tryz.underlying50 rfl hick) rfl ⟨by rw [HCO.out], ⟨?_, ?_⟩, kfin⟩
  · rw [setRow_other _ _ _ _ (Ne.symm nz)]; exact HR6.out
  · refine HY6.out.keep (setRow_other _ _ _ _ ?_) (fun g' k' hg' => setRow_other _ _ _ _ ?_)
    · have := H.out.lt.2; have := HN.out; omega
    · exact Ri.ne_type hg' HZ6.out (show 113 ≠ 50 by decide)
end Go.Proofs.YtapogiihkbjppaaGreatDoor
