/-
  Texts that belong together, laid into one.
-/
import Derived.Test.YtibpgmcpcelmpaaGreatDoorRiMath
import Derived.Test.YtibpgmcpcelmpaaGreatDoorSeOne
import Derived.Test.YtibpgmcpcelmpaaGreatDoorMBase
import Derived.Test.YtibpgmcpcelmpaaGreatDoorRiAt
import Derived.Tactics
import Derived.Tactics2
import Derived.Defers
import Derived.Laws.Pointers
import Derived.Laws.LoneSync
import Derived.RegionTactic
import Derived.RegionCalls
import Derived.ChangeAlike
import Derived.WalkSpells
import Derived.Conc.MuLone
/-
  What ring's Key makes: a master's key.
-/
namespace Go.Proofs.YtibpgmcpcelmpaaGreatDoor
open Go.RowKit
namespace Ri
theorem zero8 : (Tryz.prog.info? 135).map (fun i => (i.zero, i.size)) = some (some (.agg (Sm.rowB 8 [])), 8) := by kernel_rfl
theorem zeroKey : (Tryz.prog.info? 74).map (fun i => (i.zero, i.size)) = some (some (.agg (Sm.rowB 32 [])), 32) := by kernel_rfl
def b8 (v k : Nat) : List UInt8 := (List.range k).map fun i => UInt8.ofNat (v / 2 ^ (56 - 8 * i))
theorem b8_length (v k : Nat) : (b8 v k).length = k := by simp [b8]
theorem b8_snoc (v k : Nat) : b8 v (k + 1) = b8 v k ++ [UInt8.ofNat (v / 2 ^ (56 - 8 * k))] := Sm.range_snoc
theorem wrap_u64 (i : Int) : IntKind.u64.wrap i = (u64 i : Int) := by
  rw [IntKind.wrap_u64, u64]
  omega
theorem infoKey {c : List Value} (h : c.length = 32) : (Tryz.prog.info? 74).map (·.size) = some c.toArray.size := by rw [List.size_toArray, h]; kernel_rfl
end Ri

set_option maxRecDepth 100000 in
set_option maxHeartbeats 2000000 in
theorem rgKey_any {w : World} (hH : Sm.HAt w) (hK : Sm.KAt w) (hsz : 1 < w.heap.size) (M : ByteArray) (hM : M.size ≤ 1152921504606846976) (i : Int) :
    Calls Tryz.prog 45 #[.string M, .int .i64 i] w fun e w' => e = .returned (.agg (Lib.byteCells (Ri.key M.data.toList i)).toArray) ∧ Below w.heap.size w w' := by
  have HH := Lib.hid hH
  have HK := Lib.hid hK
  obtain ⟨z8, hz8⟩ : ∃ z, z = Sm.rowB 8 [] := ⟨_, rfl⟩
  have hzz8 := (zero_of_info Ri.zero8).1
  rw [← hz8] at hzz8
  obtain ⟨zk, hzk⟩ : ∃ z, z = Sm.rowB 32 [] := ⟨_, rfl⟩
  have hzzk := (zero_of_info Ri.zeroKey).1
  rw [← hzk] at hzzk
  have hzks : zk.size = 32 := by rw [hzk]; exact Sm.rowB_size (by simp)
  obtain ⟨N, hN⟩ : ∃ N, N = w.heap.size := ⟨_, rfl⟩
  have hN1 : 1 < N := by omega
  have g0 : ((w.alloc (.cells zk 74)).alloc (.cells z8 135)).heap[N]? = some (.cells zk 74 (0, 0)) := by
    rw [hN, Below.heap_alloc _ _ _ (by simp)]; exact heap_alloc_new w _
  have g1 : ((w.alloc (.cells zk 74)).alloc (.cells z8 135)).heap[N + 1]? = some (.cells (Sm.rowB 8 (Ri.b8 (Ri.u64 i) 0)) 135 (0, 0)) := by
    rw [hN, show Sm.rowB 8 (Ri.b8 (Ri.u64 i) 0) = z8 by rw [hz8]; rfl]
    simpa using heap_alloc_new (w.alloc (.cells zk 74)) (.cells z8 135)
  have b1 : Below N w ((w.alloc (.cells zk 74)).alloc (.cells z8 135)) := by
    rw [hN]; exact ((Below.refl _ w).alloc (Nat.le_refl _) _).alloc (by simp) _
  have hv := Ri.wrap_u64 i
  obtain ⟨v, hvv⟩ : ∃ v, v = Ri.u64 i := ⟨_, rfl⟩
  rw [← hvv] at hv g1
  have HV := Lib.hid hvv
  rw [← hN]
  have HN := Lib.hid hN
  clear hz8 hzk hN hvv hH hK
  go_enter Tryz.func45, Tryz.ntmps45
  go_upto_region 2 with (fail)
  rw [← HN.out]
  generalize (w.alloc (.cells zk 74)).alloc (.cells z8 135) = W2 at *
  clear hzz8 hzzk
  have G0 := Lib.hid g0
  clear g0
  go_wp2_with fail
  go_loopw [6, 7] (fun _ t wr => ∃ k : Nat, k ≤ 8 ∧ t = .int .i64 k ∧ wr.heap[N + 1]? = some (.cells (Sm.rowB 8 (Ri.b8 v k)) 135 (0, 0)) ∧ wr.heap[N]? = some (.cells zk 74 (0, 0)) ∧ Below N w wr) (fun _ t _ => 8 - (intOf t).toNat)
  case atStart => exact ⟨0, by omega, rfl, g1, G0.out, b1⟩
  case round =>
    clear g1 b1 G0
    obtain ⟨k, hk, rfl, hr1, hr0, hbk⟩ := hrel
    have HR1 := Lib.hid hr1
    have HR0 := Lib.hid hr0
    clear hr1 hr0
    by_cases hlt : k < 8
    · have q1 : (k : Int) < 8 := by omega
      have hl := Ri.b8_length v k
      obtain ⟨old, hold⟩ := Sm.rowB_some (n := 8) (l := Ri.b8 v k) k (by omega) (by omega)
      have hold := Sm.cells_of HR1.out k old hold
      have fz := Sm.free_of HR1.out k
      have v1 : IntKind.i64.wrap (8 * (k : Int)) = 8 * (k : Int) := IntWalk.i64_in _ (by omega)
      have v2 : IntKind.i64.wrap (56 - 8 * (k : Int)) = 56 - 8 * (k : Int) := IntWalk.i64_in _ (by omega)
      have p1 : 0 ≤ 56 - 8 * (k : Int) := by omega
      have p2 : 8 * (k : Int) ≤ 56 := by omega
      go_wp2_with fail
      go_roundw
      case rel =>
        refine ⟨k + 1, by omega, by go_num, ?_, ?_, hbk.setCell (p := ⟨N + 1, k, none⟩) (by show N ≤ N + 1; omega) _⟩
        · have e := Sm.rowB_set (n := 8) (l := Ri.b8 v k) (by omega) (UInt8.ofNat (v / 2 ^ (56 - 8 * k)))
          rw [hl] at e
          rw [Ri.b8_snoc, ← e, Se.shr_byte]
          exact Sm.heap_set HR1.out k _
        · rw [Below.heap_setCell _ _ _ _ (by show N ≠ N + 1; omega)]; exact HR0.out
      case measure => simp [intOf]; omega
    · obtain rfl : k = 8 := by omega
      have q1 : ¬ ((8 : Nat) : Int) < 8 := by omega
      have hr := HR1.out
      rw [Sm.rowB_full (by rw [Ri.b8_length])] at hr
      have CV : Hid ((convert 85 9 (.slice (some ⟨N + 1, 0, none⟩) 8 8)).run Tryz.prog wr = .ok (.string ⟨(Ri.b8 v 8).toArray⟩) wr) := Sm.conv_row hr (Ri.b8_length v 8)
      obtain ⟨tb, htb⟩ : ∃ t : ByteArray, t = ⟨(Ri.b8 v 8).toArray⟩ := ⟨_, rfl⟩
      have htbs : tb.size = 8 := by rw [htb]; show (Array.size _) = _; rw [List.size_toArray, Ri.b8_length]
      obtain ⟨tx, htx⟩ : ∃ t : ByteArray, t = ⟨#[114, 105, 110, 103]⟩ ++ tb := ⟨_, rfl⟩
      have htxl : tx.data.toList = Ri.ringL ++ Ri.be8 v := by
        rw [htx, htb, ByteArray.data_append]
        simp [Ri.ringL, Ri.b8, Ri.be8]
      have htxs : tx.size = 12 := by
        have h1 : tx.data.toList.length = tx.size := by rw [Array.length_toList]; rfl
        rw [← h1, htxl, List.length_append, Ri.be8_length]; rfl
      obtain ⟨co, hco⟩ : ∃ c, c = Lib.byteCells (Ri.key M.data.toList i) := ⟨_, rfl⟩
      have hcol : co.length = 32 := by rw [hco, Lib.byteCells_length, Ri.key_length]
      have hone : co.toArray.all (·.oneCell') = true := by rw [hco]; exact Sm.bytes_one _
      have TAG : Hid (∀ wx : World, Sm.HAt wx → Sm.KAt wx → 1 < wx.heap.size → Calls Tryz.prog 71 #[.string M, .string tx] wx fun e w' => e = .returned (.agg co.toArray) ∧ Below wx.heap.size wx w') := fun wx h1 h2 h3 => by
        have h := tag_any M tx h1 h2 h3 hM (by omega)
        rw [htxl, HV.out] at h
        rw [hco]
        exact h
      have cv := CV.out
      rw [← htb] at cv
      have hadd : ¬ 9223372036854775807 < (ByteArray.mk #[114, 105, 110, 103]).size + tb.size := by rw [htbs]; decide
      rw [htx] at TAG
      have hick := Ri.infoKey hcol
      have HCO := Lib.hid hco
      clear htb htx htxl hr CV HR1 hco
      go_wp2_with fail
      refine (TAG.out _ (HH.out.low hbk (by have := HN.out; omega)) (HK.out.low hbk hN1) (by have := hbk.size; have := HN.out; omega)).mono ?_
      rintro e w3 ⟨rfl, k3⟩
      have HR3 := Lib.hid ((k3.block N (Sm.lt_of HR0.out)).trans HR0.out)
      have B3 := Lib.hid (hbk.trans (k3.mono (by have := hbk.size; have := HN.out; omega)))
      clear k3 HR0 hbk TAG cv hadd
      go_wp2_with (with_reducible refine wpList_store_row rfl 74 (.tmp 4) (.tmp 24) rfl N co.toArray rfl rfl 74 _ (by exact HR3.out) hick (by rw [hzks, List.size_toArray, hcol]) hone ?_)
      exact bodyPost_ret (v := .agg co.toArray) (results_cell_row rfl _ _ N 74 _ (0, 0) _ rfl (setRow_heap _ N _ _ _ _ HR3.out) Tryz.underlying74 rfl hick) rfl ⟨by rw [HCO.out], Sm.below_setRow B3.out (Nat.le_refl _) _⟩
end Go.Proofs.YtibpgmcpcelmpaaGreatDoor

/-
  sync.Mutex, sync.Once and sync/atomic as package ring's calls meet them, in one goroutine: the contracts.
-/
namespace Go.Proofs.YtibpgmcpcelmpaaGreatDoor
open Go.RowKit
namespace Ri
theorem disable (w : World) : (callFunc 83 #[]).run Tryz.prog w = .ok (.value (.tuple #[])) w := run_call_mark0 Tryz.func83 (by kernel_rfl) (by kernel_rfl) (by kernel_rfl) .disable (by kernel_rfl) w
theorem enable (w : World) : (callFunc 85 #[]).run Tryz.prog w = .ok (.value (.tuple #[])) w := run_call_mark0 Tryz.func85 (by kernel_rfl) (by kernel_rfl) (by kernel_rfl) .enable (by kernel_rfl) w
theorem acquire (a : Addr) (w : World) : (callFunc 86 #[.pointer (some a)]).run Tryz.prog w = .ok (.value (.tuple #[])) w := run_call_marked Tryz.func86 (by kernel_rfl) (by kernel_rfl) (by kernel_rfl) .acquire (by kernel_rfl) a w
theorem releaseMerge (a : Addr) (w : World) : (callFunc 88 #[.pointer (some a)]).run Tryz.prog w = .ok (.value (.tuple #[])) w := run_call_marked Tryz.func88 (by kernel_rfl) (by kernel_rfl) (by kernel_rfl) .releaseMerge (by kernel_rfl) a w

set_option maxRecDepth 100000 in
set_option maxHeartbeats 1600000 in
theorem lock_free (a : Addr) (w : World) (hc : w.cell? a = some (.int .i32 0)) (hz : w.frozen? a = false) :
    Calls Tryz.prog 28 #[.pointer (some a)] w fun e w' => e = .returned (.tuple #[]) ∧ w' = w.setCell a (.int .i32 1) := by
  have hd := disable
  have he := enable
  have ha := acquire
  have hcas := run_call_cas_hit (P := Tryz.prog) Tryz.func84 (by kernel_rfl) (by kernel_rfl) (by kernel_rfl) .i32 (by kernel_rfl) (y := 1) hc hz
  have hc' : (w.setCell a (.int .i32 1)).cell? a = some (.int .i32 1) := World.cell?_setCell_same w a _ hc
  have hcv := run_convert_to_unsafe (P := Tryz.prog) (src := 149) (dst := 153) Tryz.underlying149 Tryz.underlying153 (by kernel_rfl) hc'
  go_enter Tryz.func28, Tryz.ntmps28
  go_wp2
  first | go_end0 | (simp only [Exit.inBlock, Exit.then]; refine bodyPost_ret (results_none rfl _ _ _) rfl ?_) | refine bodyPost_ret (results_none rfl _ _ _) rfl ?_
  go_wp2
  go_end0
  exact ⟨rfl, rfl⟩
set_option maxRecDepth 100000 in
set_option maxHeartbeats 1600000 in
theorem unlock_deferred (a : Addr) (u : FrameMode) (w : World) (hc : w.cell? a = some (.int .i32 1)) (hz : w.frozen? a = false) :
    CallsD Tryz.prog 29 #[.pointer (some a)] u w fun e u' w' => u' = u ∧ (e = .returned (.tuple #[]) ∧ w' = w.setCell a (.int .i32 0)) := by
  have hd := disable
  have he := enable
  have hr := releaseMerge
  have hadd := run_call_add (P := Tryz.prog) Tryz.func89 (by kernel_rfl) (by kernel_rfl) (by kernel_rfl) .i32 (by kernel_rfl) (y := -1) (s := 0) hc hz (by simp [go_sem]; rfl)
  have hcv := run_convert_to_unsafe (P := Tryz.prog) (src := 149) (dst := 153) Tryz.underlying149 Tryz.underlying153 (by kernel_rfl) hc
  go_enter_d Tryz.func29, Tryz.ntmps29
  go_wp2
  go_end0
  go_wp2
  go_end0
  exact ⟨rfl, rfl⟩
set_option maxRecDepth 100000 in
set_option maxHeartbeats 1600000 in
/-- '(*sync/atomic.Bool).Store(true)', entered as a deferred call. -/
theorem store_deferred (a : Addr) (x : Value) (u : FrameMode) (w : World) (hc : w.cell? a = some x) (hz : w.frozen? a = false) :
    CallsD Tryz.prog 105 #[.pointer (some a), .bool true] u w fun e u' w' => u' = u ∧ (e = .returned (.tuple #[]) ∧ w' = w.drew.setCell a (.int .u32 1)) := by
  have hc' : w.drew.cell? a = some x := by go_simp
  have hz' : w.drew.frozen? a = false := by go_simp
  have hst := run_call_store (P := Tryz.prog) Tryz.func131 (by kernel_rfl) (by kernel_rfl) (by kernel_rfl) (by kernel_rfl) (k := .u32) (y := 1) hc' hz'
  go_enter_d Tryz.func105, Tryz.ntmps105
  go_wp2
  go_region_calls
  all_goals (go_end0; exact ⟨rfl, rfl⟩)
theorem not_run (x : Bool) (w : World) : (Op.unary .not (.bool x)).run Tryz.prog w = .ok (.bool (!x)) w := rfl
set_option maxRecDepth 100000 in
set_option maxHeartbeats 1600000 in
/-- '(*sync.Once).Do', done already: the function is not called. -/
theorem do_done (a : Addr) (fv : Value) (w : World) (h0 : w.cell? a = some (.int .u32 1)) :
    Calls Tryz.prog 43 #[.pointer (some a), fv] w fun e w' => e = .returned (.tuple #[]) ∧ w = w' := by
  have hl := run_call_load (P := Tryz.prog) Tryz.func104 (by kernel_rfl) (by kernel_rfl) (by kernel_rfl) .u32 (by kernel_rfl) h0
  have hnot := not_run
  have hd' : ((1 : Int) != 0) = true := by decide
  go_enter Tryz.func43, Tryz.ntmps43
  go_wp2
  go_end0
  exact ⟨rfl, rfl⟩
set_option maxRecDepth 100000 in
set_option maxHeartbeats 1600000 in
theorem add64 (a : Addr) (w : World) (x y s : Int) (hc : w.cell? a = some (.int .u64 x)) (hz : w.frozen? a = false) (hs : IntKind.u64.wrap (x + y) = s) :
    Calls Tryz.prog 20 #[.pointer (some a), .int .u64 y] w fun e w' => e = .returned (.int .u64 s) ∧ w' = w.setCell a (.int .u64 s) := by
  have hadd := run_call_add (P := Tryz.prog) Tryz.func38 (by kernel_rfl) (by kernel_rfl) (by kernel_rfl) .u64 (by kernel_rfl) (y := y) (s := s) hc hz (by simp [go_sem, hs])
  go_enter Tryz.func20, Tryz.ntmps20
  go_wp2
  go_ret
  exact ⟨rfl, rfl⟩
set_option maxRecDepth 100000 in
set_option maxHeartbeats 1600000 in
theorem load64 (a : Addr) (w : World) (x : Int) (hc : w.cell? a = some (.int .u64 x)) :
    Calls Tryz.prog 30 #[.pointer (some a)] w fun e w' => e = .returned (.int .u64 x) ∧ w = w' := by
  have hl := run_call_load (P := Tryz.prog) Tryz.func63 (by kernel_rfl) (by kernel_rfl) (by kernel_rfl) .u64 (by kernel_rfl) hc
  go_enter Tryz.func30, Tryz.ntmps30
  go_wp2
  go_ret
  exact ⟨rfl, rfl⟩
end Ri
end Go.Proofs.YtibpgmcpcelmpaaGreatDoor

/-
  What ring's none, Current, Rotate and Count do.
-/
namespace Go.Proofs.YtibpgmcpcelmpaaGreatDoor
open Go.RowKit
namespace Ri
/-- A ring's cells that New did not make. -/
def bareCells : Array Value := #[.string ⟨#[]⟩, .int .u32 0, .int .u64 0, .int .i32 0, .int .u32 0, .int .i64 0, .map none]
/-- What is no ring: nil, or a Ring that New did not make. -/
def None (w : World) (v : Value) : Prop := v = .pointer none ∨ ∃ b, v = .pointer (some ⟨b, 0, none⟩) ∧ w.heap[b]? = some (.cells bareCells 62 (0, 0))
theorem None.keep {w w' : World} {v : Value} (h : None w v) (k : ∀ i, i < w.heap.size → w'.heap[i]? = w.heap[i]?) : None w' v := by
  rcases h with rfl | ⟨b, rfl, h⟩
  · exact .inl rfl
  · exact .inr ⟨b, rfl, (k b (Sm.lt_of h)).trans h⟩
/-- A cell that is set and set back. -/
theorem set_back {w : World} {b : Nat} {cs : Array Value} {t : TypeId} {o : Nat} {v : Value} (h : w.heap[b]? = some (.cells cs t (0, 0))) (hv : cs[o]? = some v) (x : Value) : (w.setCell ⟨b, o, none⟩ x).setCell ⟨b, o, none⟩ v = w := by
  have h2 := Sm.heap_set h o x
  have e : ∀ (i : Nat), ((w.setCell ⟨b, o, none⟩ x).setCell ⟨b, o, none⟩ v).heap[i]? = w.heap[i]? := fun i => by
    by_cases hi : i = b
    · subst hi
      rw [Sm.heap_set h2 o v, h]
      congr 2
      apply Array.ext_getElem?
      intro j
      rw [Array.getElem?_setIfInBounds, Array.size_setIfInBounds]
      by_cases hj : o = j
      · subst hj
        rw [if_pos rfl, if_pos (Array.getElem?_eq_some_iff.1 hv).1, hv]
      · rw [if_neg hj, Array.getElem?_setIfInBounds, if_neg hj]
    · rw [Below.heap_setCell _ _ _ _ hi, Below.heap_setCell _ _ _ _ hi]
  have e2 : ((w.setCell ⟨b, o, none⟩ x).setCell ⟨b, o, none⟩ v).heap = w.heap := Array.ext_getElem? e
  have e3 : (w.setCell ⟨b, o, none⟩ x).setCell ⟨b, o, none⟩ v = { w with heap := ((w.setCell ⟨b, o, none⟩ x).setCell ⟨b, o, none⟩ v).heap } := rfl
  rw [e3, e2]
end Ri

set_option maxRecDepth 100000 in
theorem rgNone_not {w : World} {r m : Nat} {M : ByteArray} {boot n : Nat} {cur : Int} (h : Ri.RingAt w r m M boot n cur) :
    Calls Tryz.prog 19 #[.pointer (some ⟨r, 0, none⟩)] w fun e w' => e = .returned (.bool false) ∧ w = w' := by
  have hq : ∀ (w : World) (r : Option Nat), (binOp .eql 50 (.map r) (.map none)).run Tryz.prog w = .ok (.bool r.isNone) w := fun w r => run_eql_map_nil w _ _ _ r Tryz.underlying50
  have c5 := Sm.cells_of h.ring 6 _ (show (Ri.cells M boot n cur m)[6]? = some (.map (some m)) from rfl)
  have hlt := h.lt
  clear h
  go_enter Tryz.func19, Tryz.ntmps19
  go_wp2
  go_ret
  exact ⟨rfl, rfl⟩
set_option maxRecDepth 100000 in
theorem rgNone_is {w : World} {v : Value} (h : Ri.None w v) :
    Calls Tryz.prog 19 #[v] w fun e w' => e = .returned (.bool true) ∧ w = w' := by
  have hq : ∀ (w : World) (r : Option Nat), (binOp .eql 50 (.map r) (.map none)).run Tryz.prog w = .ok (.bool r.isNone) w := fun w r => run_eql_map_nil w _ _ _ r Tryz.underlying50
  rcases h with rfl | ⟨b, rfl, h⟩
  · go_enter Tryz.func19, Tryz.ntmps19
    go_wp2
    go_ret
    exact ⟨rfl, rfl⟩
  · have c5 := Sm.cells_of h 6 _ (show Ri.bareCells[6]? = some (.map none) from rfl)
    clear h
    go_enter Tryz.func19, Tryz.ntmps19
    go_wp2
    go_ret
    exact ⟨rfl, rfl⟩

set_option maxRecDepth 100000 in
set_option maxHeartbeats 1000000 in
theorem rgCurrent_any {w : World} {r m : Nat} {M : ByteArray} {boot n : Nat} {cur : Int} (h : Ri.RingAt w r m M boot n cur) :
    Calls Tryz.prog 14 #[.pointer (some ⟨r, 0, none⟩)] w fun e w' => e = .returned (.int .i64 cur) ∧ w = w' := by
  have NO := Lib.hid (rgNone_not h)
  have c3 := Sm.cells_of h.ring 3 _ (show (Ri.cells M boot n cur m)[3]? = some (.int .i32 0) from rfl)
  have c5 := Sm.cells_of h.ring 5 _ (show (Ri.cells M boot n cur m)[5]? = some (.int .i64 cur) from rfl)
  have f3 := Sm.free_of h.ring 3
  have c5' : (w.setCell ⟨r, 3, none⟩ (.int .i32 1)).cell? ⟨r, 5, none⟩ = some (.int .i64 cur) := (World.cell?_setCell_other w ⟨r, 3, none⟩ ⟨r, 5, none⟩ _ (by simp)).trans c5
  have c3' : (w.setCell ⟨r, 3, none⟩ (.int .i32 1)).cell? ⟨r, 3, none⟩ = some (.int .i32 1) := World.cell?_setCell_same w _ _ c3
  have hb := Ri.set_back h.ring (show (Ri.cells M boot n cur m)[3]? = some (.int .i32 0) from rfl) (.int .i32 1)
  have HB := Lib.hid hb
  have LK := Lib.hid (Ri.lock_free ⟨r, 3, none⟩ w c3 f3)
  have UL := Lib.hid (Ri.unlock_deferred ⟨r, 3, none⟩ .returning (w.setCell ⟨r, 3, none⟩ (.int .i32 1)) c3' (by simp [f3]))
  clear h hb c3 c5 c3'
  go_enter_defers Tryz.func14, Tryz.ntmps14
  go_wp2_with fail
  refine (NO.out).mono ?_
  rintro e w1 ⟨rfl, rfl⟩
  go_wp2_with fail
  refine (LK.out).mono ?_
  rintro e w1 ⟨rfl, rfl⟩
  go_wp2_with fail
  refine leaves_cons (f := 29) (args := #[.pointer (some ⟨r, 3, none⟩)]) (by simp) (by simp [go_sem]) ?_
  refine (UL.out).mono ?_
  rintro e u' w'' ⟨rfl, rfl, rfl⟩
  exact ⟨_, results_tmp rfl _ _ _, rfl, HB.out.symm⟩

set_option maxRecDepth 100000 in
set_option maxHeartbeats 1000000 in
theorem rgCurrent_none {w : World} {v : Value} (h : Ri.None w v) :
    Calls Tryz.prog 14 #[v] w fun e w' => e = .returned (.int .i64 0) ∧ w = w' := by
  have NO := Lib.hid (rgNone_is h)
  clear h
  go_enter_defers Tryz.func14, Tryz.ntmps14
  go_wp2_with fail
  refine (NO.out).mono ?_
  rintro e w1 ⟨rfl, rfl⟩
  go_wp2_with fail
  exact ⟨_, results_tmp rfl _ _ _, rfl, rfl⟩
end Go.Proofs.YtibpgmcpcelmpaaGreatDoor

/-
  sync.Once, not yet done, its lock free: the function is called once, between the lock and 'done'. For whatever function, by its contract.
-/
namespace Go.Proofs.YtibpgmcpcelmpaaGreatDoor
open Go.RowKit
namespace Ri
set_option maxRecDepth 100000 in
theorem load_not (a : Addr) (w : World) (h0 : w.cell? a = some (.int .u32 0)) :
    Calls Tryz.prog 72 #[.pointer (some a)] w fun e w' => e = .returned (.bool false) ∧ w = w' := by
  have hl := run_call_load (P := Tryz.prog) Tryz.func104 (by kernel_rfl) (by kernel_rfl) (by kernel_rfl) .u32 (by kernel_rfl) h0
  go_enter Tryz.func72, Tryz.ntmps72
  go_wp2
  go_ret
  exact ⟨rfl, rfl⟩
theorem once_get {c : Array Value} {k : Nat} {v : Value} (h : c[k]? = some v) {j : Nat} (hj : j ≠ k) (x : Value) : (c.setIfInBounds j x)[k]? = some v := by
  rw [Array.getElem?_setIfInBounds, if_neg hj]; exact h
set_option maxRecDepth 100000 in
set_option maxHeartbeats 1600000 in
theorem slow_any {g f : Nat} {t : TypeId} {caps : Array Value} {cg cg2 : Array Value} {w : World} (hg : w.heap[g]? = some (.cells cg t (0, 0))) (h0 : cg[0]? = some (.int .u32 0)) (h1 : cg[1]? = some (.int .i32 0)) (h20 : cg2[0]? = some (.int .u32 0)) (h21 : cg2[1]? = some (.int .i32 1))
    (hf : (callFunc f caps).run Tryz.prog = fun w => .ok (.enter f caps) w)
    (hF : Calls Tryz.prog f caps (w.setCell ⟨g, 1, none⟩ (.int .i32 1)) fun e w' => e = .returned (.tuple #[]) ∧ w'.heap[g]? = some (.cells cg2 t (0, 0)) ∧ (w.setCell ⟨g, 1, none⟩ (.int .i32 1)).grownBy w' (some g)) :
    Calls Tryz.prog 73 #[.pointer (some ⟨g, 0, none⟩), .func (.func f) #[] caps] w fun e w' => e = .returned (.tuple #[]) ∧
      w'.heap[g]? = some (.cells ((cg2.setIfInBounds 0 (.int .u32 1)).setIfInBounds 1 (.int .i32 0)) t (0, 0)) ∧ w.grownBy w' (some g) := by
  have c1 := Sm.cells_of hg 1 _ h1
  have f1 := Sm.free_of hg 1
  have hg1 := Sm.heap_set hg 1 (.int .i32 1)
  have k1 : w.grownBy (w.setCell ⟨g, 1, none⟩ (.int .i32 1)) (some g) := Sm.grown_set (Sm.grown_refl w _) 1 _
  have c0 := Sm.cells_of hg1 0 _ (once_get h0 (by decide) _)
  have LK := Lib.hid (lock_free ⟨g, 1, none⟩ w c1 f1)
  have LD := Lib.hid (load_not ⟨g, 0, none⟩ _ c0)
  have HF := Lib.hid hF
  have hnot := not_run
  have K1 := Lib.hid k1
  have H20 := Lib.hid h20
  have H21 := Lib.hid h21
  clear hg h0 h1 h20 h21 hF c1 f1 hg1 k1 c0
  generalize w.setCell ⟨g, 1, none⟩ (.int .i32 1) = w1 at *
  go_enter_defers Tryz.func73, Tryz.ntmps73
  go_wp2_with fail
  refine (LK.out).mono ?_
  rintro e w2 ⟨rfl, rfl⟩
  go_wp2_with fail
  refine (LD.out).mono ?_
  rintro e w3 ⟨rfl, rfl⟩
  go_wp2_with fail
  refine (HF.out).mono ?_
  rintro e w4 ⟨rfl, hg4, k4⟩
  have K4 := Lib.hid (Sm.grown_trans K1.out k4)
  have s0 := Sm.cells_of hg4 0 _ H20.out
  have f0 := Sm.free_of hg4 0
  have s1 : (w4.drew.setCell ⟨g, 0, none⟩ (.int .u32 1)).cell? ⟨g, 1, none⟩ = some (.int .i32 1) := (World.cell?_setCell_other w4.drew ⟨g, 0, none⟩ ⟨g, 1, none⟩ _ (by simp)).trans (Sm.cells_of hg4 1 _ H21.out)
  have f1 : (w4.drew.setCell ⟨g, 0, none⟩ (.int .u32 1)).frozen? ⟨g, 1, none⟩ = false := by
    have := Sm.free_of hg4 1
    simp [this]
  have ST := Lib.hid (store_deferred ⟨g, 0, none⟩ _ .returning w4 s0 f0)
  have UL := Lib.hid (fun u => unlock_deferred ⟨g, 1, none⟩ u (w4.drew.setCell ⟨g, 0, none⟩ (.int .u32 1)) s1 f1)
  have hg5 := Sm.heap_set (w := w4.drew.setCell ⟨g, 0, none⟩ (.int .u32 1)) (Sm.heap_set (w := w4.drew) hg4 0 (.int .u32 1)) 1 (.int .i32 0)
  have HG5 := Lib.hid hg5
  have K5 := Lib.hid (Sm.grown_set (Sm.grown_set (w := w4.drew) (Sm.grown_drewN K4.out 1) 0 (.int .u32 1)) 1 (.int .i32 0))
  clear hg4 k4 s0 f0 s1 f1 hg5 HF LD LK
  go_wp2_with fail
  refine leaves_cons (f := 105) (args := #[.pointer (some ⟨g, 0, none⟩), .bool true]) (by simp) (by simp [go_sem]) ?_
  refine (ST.out).mono ?_
  rintro e u' w5 ⟨rfl, rfl, rfl⟩
  refine leaves_cons (f := 29) (args := #[.pointer (some ⟨g, 1, none⟩)]) (by simp [settle]) (by simp [go_sem]) ?_
  refine (UL.out _).mono ?_
  rintro e u' w6 ⟨rfl, rfl, rfl⟩
  simp [Leaves, settle, results, Tryz.results73]
  exact ⟨HG5.out, K5.out⟩
set_option maxRecDepth 100000 in
set_option maxHeartbeats 1600000 in
theorem do_first {g f : Nat} {t : TypeId} {caps : Array Value} {cg cg2 : Array Value} {w : World} (hg : w.heap[g]? = some (.cells cg t (0, 0))) (h0 : cg[0]? = some (.int .u32 0)) (h1 : cg[1]? = some (.int .i32 0)) (h20 : cg2[0]? = some (.int .u32 0)) (h21 : cg2[1]? = some (.int .i32 1))
    (hf : (callFunc f caps).run Tryz.prog = fun w => .ok (.enter f caps) w)
    (hF : Calls Tryz.prog f caps (w.setCell ⟨g, 1, none⟩ (.int .i32 1)) fun e w' => e = .returned (.tuple #[]) ∧ w'.heap[g]? = some (.cells cg2 t (0, 0)) ∧ (w.setCell ⟨g, 1, none⟩ (.int .i32 1)).grownBy w' (some g)) :
    Calls Tryz.prog 43 #[.pointer (some ⟨g, 0, none⟩), .func (.func f) #[] caps] w fun e w' => e = .returned (.tuple #[]) ∧
      w'.heap[g]? = some (.cells ((cg2.setIfInBounds 0 (.int .u32 1)).setIfInBounds 1 (.int .i32 0)) t (0, 0)) ∧ w.grownBy w' (some g) := by
  have SL := Lib.hid (slow_any hg h0 h1 h20 h21 hf hF)
  have LD := Lib.hid (load_not ⟨g, 0, none⟩ w (Sm.cells_of hg 0 _ h0))
  have hnot := not_run
  clear hg h0 h1 h20 h21 hf hF
  go_enter Tryz.func43, Tryz.ntmps43
  go_wp2_with fail
  refine (LD.out).mono ?_
  rintro e w3 ⟨rfl, rfl⟩
  go_wp2_with fail
  refine (SL.out).mono ?_
  rintro e w4 ⟨rfl, hg4, k4⟩
  go_wp2_with fail
  go_end0
  exact ⟨rfl, hg4, k4⟩
end Ri
end Go.Proofs.YtibpgmcpcelmpaaGreatDoor

/-
  ring's key: the function that makes it, handed to its Once.
-/
namespace Go.Proofs.YtibpgmcpcelmpaaGreatDoor
open Go.RowKit
namespace Ri
theorem types_made : 26 ≠ 102 ∧ 3 ≠ 102 ∧ 95 ≠ 102 ∧ 62 ≠ 102 := by decide
end Ri
set_option maxRecDepth 100000 in
set_option maxHeartbeats 1600000 in
theorem rgMake_any {w : World} (hH : Sm.HAt w) (hK : Sm.KAt w) (hsz : 1 < w.heap.size) {pr pi pk r g : Nat} (M : ByteArray) (hM : M.size ≤ 1152921504606846976) (i : Int) {cg cr : Array Value}
    (h1 : w.heap[pr]? = some (.cells #[.pointer (some ⟨r, 0, none⟩)] 26 (0, 0))) (h2 : w.heap[pi]? = some (.cells #[.int .i64 i] 3 (0, 0))) (h3 : w.heap[pk]? = some (.cells #[.pointer (some ⟨g, 0, none⟩)] 95 (0, 0)))
    (h4 : w.heap[r]? = some (.cells cr 62 (0, 0))) (hcr : cr[0]? = some (.string M)) (h5 : w.heap[g]? = some (.cells cg 102 (0, 0))) (hcg : cg.size = 35) :
    Calls Tryz.prog 44 #[.pointer (some ⟨pr, 0, none⟩), .pointer (some ⟨pi, 0, none⟩), .pointer (some ⟨pk, 0, none⟩)] w fun e w' => e = .returned (.tuple #[]) ∧
      w'.heap[g]? = some (.cells (cg.toList.take 3 ++ Lib.byteCells (Ri.key M.data.toList i)).toArray 102 (0, 0)) ∧ w.grownBy w' (some g) := by
  have HH := Lib.hid hH
  have HK := Lib.hid hK
  obtain ⟨N, hN⟩ : ∃ N, N = w.heap.size := ⟨_, rfl⟩
  have l1 := Sm.lt_of h1
  have l2 := Sm.lt_of h2
  have l3 := Sm.lt_of h3
  have l4 := Sm.lt_of h4
  have l5 := Sm.lt_of h5
  have n1 := Ri.ne_type h1 h5 Ri.types_made.1
  have n2 := Ri.ne_type h2 h5 Ri.types_made.2.1
  have n3 := Ri.ne_type h3 h5 Ri.types_made.2.2.1
  have n4 := Ri.ne_type h4 h5 Ri.types_made.2.2.2
  obtain ⟨co, hco⟩ : ∃ c, c = Lib.byteCells (Ri.key M.data.toList i) := ⟨_, rfl⟩
  have hcol : co.length = 32 := by rw [hco, Lib.byteCells_length, Ri.key_length]
  have hone : co.toArray.all (·.oneCell') = true := by rw [hco]; exact Sm.bytes_one _
  have hick := Ri.infoKey hcol
  have KEY : Hid (∀ wx : World, Sm.HAt wx → Sm.KAt wx → 1 < wx.heap.size → Calls Tryz.prog 45 #[.string M, .int .i64 i] wx fun e w' => e = .returned (.agg co.toArray) ∧ Below wx.heap.size wx w') := fun wx a b c => by
    rw [hco]; exact rgKey_any a b c M hM i
  rw [← hco]
  have H1 : Hid (w.drew.heap[pr]? = some (.cells #[.pointer (some ⟨r, 0, none⟩)] 26 (0, 0))) := h1
  have H2 : Hid (w.drew.heap[pi]? = some (.cells #[.int .i64 i] 3 (0, 0))) := h2
  have H3 : Hid (w.drew.heap[pk]? = some (.cells #[.pointer (some ⟨g, 0, none⟩)] 95 (0, 0))) := h3
  have H4 : Hid (w.drew.heap[r]? = some (.cells cr 62 (0, 0))) := h4
  have H5 : Hid (w.drew.heap[g]? = some (.cells cg 102 (0, 0))) := h5
  have HCR := Lib.hid hcr
  have HN := Lib.hid hN
  have HHd : Hid (Sm.HAt w.drew) := hH
  have HKd : Hid (Sm.KAt w.drew) := hK
  have hszd : 1 < w.drew.heap.size := hsz
  clear h1 h2 h3 h4 h5 hcr hco hN hH hK
  go_enter Tryz.func44, Tryz.ntmps44
  go_wp2_with fail
  refine wp_region_held_drew (S := fun w' => w'.heap[pr]? = some (.cells #[.pointer (some ⟨r, 0, none⟩)] 26 (0, 0)) ∧ w'.heap[pi]? = some (.cells #[.int .i64 i] 3 (0, 0)) ∧ w'.heap[pk]? = some (.cells #[.pointer (some ⟨g, 0, none⟩)] 95 (0, 0)) ∧ w'.heap[r]? = some (.cells cr 62 (0, 0))) (by kernel_rfl) ⟨H1.out, H2.out, H3.out, H4.out⟩ (fun hHeld => ?_)
  refine wpAnyH_take (i := 0) (oi := ⟨some 3, _, _, _, _, _⟩) (v := .pointer (some ⟨g, 0, none⟩)) rfl (by kernel_rfl) (by kernel_rfl) (by kernel_rfl) (fun _ _ _ h => h) (Or.inl ⟨by rfl, ?_⟩) (by assumption) ?_
  · intro w hSw; (try dsimp only at hSw); have c := Sm.cells_of hSw.2.2.1 0 _ rfl; go_simp
  simp only [Act.put, List.setIfInBounds_toArray, List.set_cons_zero, List.set_cons_succ]
  refine wpAnyH_take (i := 1) (oi := ⟨some 4, _, _, _, _, _⟩) (v := .pointer (some ⟨r, 0, none⟩)) rfl (by kernel_rfl) (by kernel_rfl) (by kernel_rfl) (fun _ _ _ h => h) (Or.inl ⟨by rfl, ?_⟩) (by assumption) ?_
  · intro w hSw; (try dsimp only at hSw); have c := Sm.cells_of hSw.1 0 _ rfl; go_simp
  simp only [Act.put, List.setIfInBounds_toArray, List.set_cons_zero, List.set_cons_succ]
  refine wpAnyH_take (i := 2) (oi := ⟨some 5, _, _, _, _, _⟩) (v := .pointer (some ⟨r, 0, none⟩)) rfl (by kernel_rfl) (by kernel_rfl) (by kernel_rfl) (fun _ _ _ h => h) (Or.inl ⟨by rfl, ?_⟩) (by assumption) ?_
  · intro w hSw; (try dsimp only at hSw); go_simp
  simp only [Act.put, List.setIfInBounds_toArray, List.set_cons_zero, List.set_cons_succ]
  refine wpAnyH_take (i := 3) (oi := ⟨some 6, _, _, _, _, _⟩) (v := .pointer (some ⟨r, 0, none⟩)) rfl (by kernel_rfl) (by kernel_rfl) (by kernel_rfl) (fun _ _ _ h => h) (Or.inl ⟨by rfl, ?_⟩) (by assumption) ?_
  · intro w hSw; (try dsimp only at hSw); have c := Sm.cells_of hSw.2.2.2 0 _ HCR.out; go_simp
  simp only [Act.put, List.setIfInBounds_toArray, List.set_cons_zero, List.set_cons_succ]
  refine wpAnyH_take (i := 4) (oi := ⟨some 7, _, _, _, _, _⟩) (v := .string M) rfl (by kernel_rfl) (by kernel_rfl) (by kernel_rfl) (fun _ _ _ h => h) (Or.inl ⟨by rfl, ?_⟩) (by assumption) ?_
  · intro w hSw; (try dsimp only at hSw); have c := Sm.cells_of hSw.2.2.2 0 _ HCR.out; go_simp
  simp only [Act.put, List.setIfInBounds_toArray, List.set_cons_zero, List.set_cons_succ]
  refine wpAnyH_take (i := 5) (oi := ⟨some 8, _, _, _, _, _⟩) (v := .int .i64 i) rfl (by kernel_rfl) (by kernel_rfl) (by kernel_rfl) (fun _ _ _ h => h) (Or.inl ⟨by rfl, ?_⟩) (by assumption) ?_
  · intro w hSw; (try dsimp only at hSw); have c := Sm.cells_of hSw.2.1 0 _ rfl; go_simp
  simp only [Act.put, List.setIfInBounds_toArray, List.set_cons_zero, List.set_cons_succ]
  refine wpAnyH_ready (rs := [6]) (by kernel_rfl) (by simp) ?_
  refine AllReadyH.cons (o := ⟨some 9, _, _, _, _, _⟩) rfl (fun K hK => ?_) AllReadyH.nil
  go_simp
  refine (KEY.out _ HHd.out HKd.out hszd).mono ?_
  rintro e w5 ⟨rfl, k5⟩
  have P1 := Lib.hid ((k5.block pr l1).trans H1.out)
  have P2 := Lib.hid ((k5.block pi l2).trans H2.out)
  have P3 := Lib.hid ((k5.block pk l3).trans H3.out)
  have P4 := Lib.hid ((k5.block r l4).trans H4.out)
  have P5 := Lib.hid ((k5.block g l5).trans H5.out)
  have G5 : Hid (w.grownBy w5 (some g)) := Sm.grown_below (Sm.grown_drewN (Sm.grown_refl w (some g)) 1) k5
  clear k5 H1 H2 H3 H4 H5
  refine hK.out _ _ ⟨P1.out, P2.out, P3.out, P4.out⟩ (fun hHeld => ?_)
  clear hK K
  refine wpAnyH_take (i := 7) (oi := ⟨some 10, _, _, _, _, _⟩) (v := .pointer (some ⟨g, 0, none⟩)) rfl (by kernel_rfl) (by kernel_rfl) (by kernel_rfl) (fun _ _ _ h => h) (Or.inl ⟨by rfl, ?_⟩) (by assumption) ?_
  · intro w hSw; (try dsimp only at hSw); go_simp
  simp only [Act.put, List.setIfInBounds_toArray, List.set_cons_zero, List.set_cons_succ]
  refine wpAnyH_take (i := 8) (oi := ⟨some 11, _, _, _, _, _⟩) (v := .pointer (some ⟨g, 3, none⟩)) rfl (by kernel_rfl) (by kernel_rfl) (by kernel_rfl) (fun _ _ _ h => h) (Or.inl ⟨by rfl, ?_⟩) (by assumption) ?_
  · intro w hSw; (try dsimp only at hSw); go_simp
  simp only [Act.put, List.setIfInBounds_toArray, List.set_cons_zero, List.set_cons_succ]
  have ht5 : w5.there g 3 co.toArray.size := fun j hj => by
    rw [List.size_toArray, hcol] at hj
    exact ⟨by rw [Sm.cells_of P5.out (3 + j) _ (Array.getElem?_eq_getElem (by omega))]; rfl, Sm.free_of P5.out _⟩
  have HT5 := Lib.hid ht5
  clear ht5
  refine wpAnyH_ready (rs := [9]) (by kernel_rfl) (by simp) ?_
  refine AllReadyH.cons (o := ⟨none, _, _, _, _, _⟩) rfl (fun K hK => ?_) AllReadyH.nil
  rw [if_pos (by simp [Region.wanted])]
  refine wp_store_mid 74 (.tmp 11) (.tmp 9) rfl g 3 co.toArray rfl rfl HT5.out hick hone ?_
  refine hK.out _ _ ⟨Sm.other_setCells n1 P1.out, Sm.other_setCells n2 P2.out, Sm.other_setCells n3 P3.out, Sm.other_setCells n4 P4.out⟩ (fun hHeld => ?_)
  clear hK K
  refine wpAnyH_done (by kernel_rfl) ?_ _
  simp only [Act.put]
  have p8 := Sm.heap_setCells co 3 w5 cg P5.out (by rw [hcg, hcol]; exact Nat.le_refl _)
  rw [List.drop_of_length_le (by simp [hcg, hcol]), List.append_nil] at p8
  have P8 := Lib.hid p8
  have G8 : Hid (w.grownBy (w5.setCells g 3 co) (some g)) := Sm.grown_setCells G5.out co 3
  clear p8
  go_wp2
  go_end0
  exact ⟨rfl, P8.out, G8.out⟩
end Go.Proofs.YtibpgmcpcelmpaaGreatDoor

/-
  ring's slot: where a key stands, made or not.
-/
namespace Go.Proofs.YtibpgmcpcelmpaaGreatDoor
open Go.RowKit
open Go.ChangeMaps (setBlock)
namespace Ri
/-- A key's cells, not made yet. -/
def made0 : Array Value := ([Value.int .u32 0, .int .i32 0, .int .u32 0] ++ Lib.byteCells (List.replicate 32 0)).toArray
theorem zeroMade : (Tryz.prog.info? 102).map (fun i => (i.zero, i.size)) = some (some (.agg made0), 35) := by kernel_rfl
theorem builtMade : Tryz.prog.built 102 [] = some made0 := by kernel_rfl
theorem infoMade {c : Array Value} (h : c.size = 35) : (Tryz.prog.info? 102).map (·.size) = some c.size := by rw [h]; kernel_rfl
theorem made0_size : made0.size = 35 := by decide
theorem made0_one : made0.all (·.oneCell') = true := by kernel_rfl
theorem block_set {w : World} {m : Nat} {o : Obj} (h : m < w.heap.size) : (setBlock w m o).heap[m]? = some o := by
  simp [setBlock, h]
theorem block_other {w : World} {m b : Nat} {o : Obj} (h : b ≠ m) : (setBlock w m o).heap[b]? = w.heap[b]? := by
  simp [setBlock, Ne.symm h]
theorem block_size {w : World} {m : Nat} {o : Obj} : (setBlock w m o).heap.size = w.heap.size := by simp [setBlock]
/-- What slot answers: a key that is made, or one that isn't yet, told to the map. -/
def Slot (w : World) (r m : Nat) (M : ByteArray) (boot n : Nat) (cur i : Int) (e : Ending) (w' : World) : Prop :=
  ∃ g, e = .returned (.pointer (some ⟨g, 0, none⟩)) ∧ w.grownBy w' (some m) ∧ w'.heap[r]? = some (.cells (cells M boot n cur m) 62 (0, 0)) ∧
    ((MadeAt w' g (key M.data.toList i) ∧ KeysAt w' m M.data.toList) ∨
     (w.heap.size ≤ g ∧ w'.heap[g]? = some (.cells made0 102 (0, 0)) ∧ ∃ es c, w'.heap[m]? = some (.map es c) ∧ ∀ e ∈ es.toList, EntryAt w M.data.toList e ∨ (e.key = .int .i64 i ∧ e.val = .pointer (some ⟨g, 0, none⟩))))
theorem zero_pMade (w : World) : (zeroValue 95).run Tryz.prog w = .ok (.pointer none) w := by kernel_rfl
theorem cells_back (M : ByteArray) (boot n : Nat) (cur : Int) (m : Nat) : ((cells M boot n cur m).setIfInBounds 3 (.int .i32 1)).setIfInBounds 3 (.int .i32 0) = cells M boot n cur m := by simp [cells]
end Ri

set_option maxRecDepth 100000 in
set_option maxHeartbeats 1600000 in
theorem rgSlot_any {w : World} {r m : Nat} {M : ByteArray} {boot n : Nat} {cur : Int} (h : Ri.RingAt w r m M boot n cur) (i : Int) :
    Calls Tryz.prog 42 #[.pointer (some ⟨r, 0, none⟩), .int .i64 i] w (Ri.Slot w r m M boot n cur i) := by
  have c3 := Sm.cells_of h.ring 3 _ (show (Ri.cells M boot n cur m)[3]? = some (.int .i32 0) from rfl)
  have f3 := Sm.free_of h.ring 3
  have LK := Lib.hid (Ri.lock_free ⟨r, 3, none⟩ w c3 f3)
  have k1 : w.grownBy (w.setCell ⟨r, 3, none⟩ (.int .i32 1)) (some r) := Sm.grown_set (Sm.grown_refl w _) 3 _
  have hr1 := Sm.heap_set h.ring 3 (.int .i32 1)
  have hb := Ri.set_back h.ring (show (Ri.cells M boot n cur m)[3]? = some (.int .i32 0) from rfl) (.int .i32 1)
  obtain ⟨es, c, hm, he⟩ := h.keys
  have hne := h.ne
  have hm1 : (w.setCell ⟨r, 3, none⟩ (.int .i32 1)).heap[m]? = some (.map es c) := (k1.block m h.lt.2 (fun e => hne (Option.some.inj e).symm)).trans hm
  have he1 : ∀ e ∈ es.toList, Ri.EntryAt (w.setCell ⟨r, 3, none⟩ (.int .i32 1)) M.data.toList e := fun e hx => by
    obtain ⟨j, g, a, b, hg⟩ := he e hx
    exact ⟨j, g, a, b, (k1.block g (Sm.lt_of hg) (fun e => Ri.ne_type hg h.ring Ri.made_ring (Option.some.inj e))).trans hg⟩
  have c6 : (w.setCell ⟨r, 3, none⟩ (.int .i32 1)).cell? ⟨r, 6, none⟩ = some (.map (some m)) := Sm.cells_of hr1 6 _ (by rw [Array.getElem?_setIfInBounds]; rfl)
  have hlook := Ri.look_keys (P := Tryz.prog) Tryz.underlying50 Tryz.underlying3 (Ri.zero_pMade _) hm1 he1 i
  obtain ⟨w1, hw1⟩ : ∃ w1, w1 = w.setCell ⟨r, 3, none⟩ (.int .i32 1) := ⟨_, rfl⟩
  rw [← hw1] at LK k1 hr1 hb hm1 he1 c6 hlook
  have s1 : w1.heap.size = w.heap.size := by rw [hw1]; simp
  have HB := Lib.hid hb
  have HR1 := Lib.hid hr1
  have HM1 := Lib.hid hm1
  have HE := Lib.hid he
  have HM := Lib.hid hm
  have H := Lib.hid h
  have HE1 := Lib.hid he1
  have K1 := Lib.hid k1
  rcases hlook with ⟨g, hg, hl⟩ | ⟨hno, hl⟩
  · have HG := Lib.hid hg
    have UL := Lib.hid (Ri.unlock_deferred ⟨r, 3, none⟩ .returning w1 (Sm.cells_of hr1 3 _ (by rw [Array.getElem?_setIfInBounds]; rfl)) (Sm.free_of hr1 3))
    clear hw1 c3 f3 k1 hr1 hb hm hm1 he he1 h hg hne s1
    go_enter_defers Tryz.func42, Tryz.ntmps42
    go_wp2_with fail
    refine (LK.out).mono ?_
    rintro e w2 ⟨rfl, rfl⟩
    go_wp2_with fail
    refine leaves_cons (f := 29) (args := #[.pointer (some ⟨r, 3, none⟩)]) (by simp) (by simp [go_sem]) ?_
    refine (UL.out).mono ?_
    rintro e u' w'' ⟨rfl, rfl, rfl⟩
    rw [HB.out]
    have hgw : Ri.MadeAt w g (Ri.key M.data.toList i) := by
      by_cases hgr : g = r
      · have := Ri.ne_type HG.out HR1.out Ri.made_ring
        exact absurd hgr this
      · rw [← HB.out]
        exact (Below.heap_setCell _ _ _ _ hgr).trans HG.out
    exact ⟨_, results_tmp rfl _ _ _, g, rfl, Sm.grown_refl _ _, H.out.ring, .inl ⟨hgw, H.out.keys⟩⟩
  · obtain ⟨mz, hmz⟩ : ∃ z, z = Ri.made0 := ⟨_, rfl⟩
    have hzz := (zero_of_info Ri.zeroMade).1
    have hms := Ri.made0_size
    have hmo := Ri.made0_one
    rw [← hmz] at hzz hms hmo
    have BE : Hid (Tryz.prog.built 102 [] = some mz) := by
      show _ = _
      rw [hmz]; exact Ri.builtMade
    have hst : (storeCells ⟨w1.heap.size, 0, none⟩ mz.toList).run Tryz.prog (w1.alloc (.cells mz 102)) = .ok () (w1.alloc (.cells mz 102)) :=
      run_storeCells_new (P := Tryz.prog) w1 102 mz _ (Ri.infoMade hms) rfl hmo
    obtain ⟨g, hgg⟩ : ∃ g, g = w1.heap.size := ⟨_, rfl⟩
    have hlr : r < g := by have := h.lt.1; omega
    have hlm : m < g := by have := h.lt.2; omega
    have b2 : Below g w1 (w1.alloc (.cells mz 102)) := by rw [hgg]; exact (Below.refl _ w1).alloc (Nat.le_refl _) _
    have hg2 : (w1.alloc (.cells mz 102)).heap[g]? = some (.cells mz 102 (0, 0)) := by rw [hgg]; exact heap_alloc_new w1 _
    have hm2 := (b2.block m hlm).trans hm1
    have hr2 := (b2.block r hlr).trans hr1
    have c62 : (w1.alloc (.cells mz 102)).cell? ⟨r, 6, none⟩ = some (.map (some m)) := Sm.cells_of hr2 6 _ (by rw [Array.getElem?_setIfInBounds]; rfl)
    have hput := Ri.put_keys (P := Tryz.prog) Tryz.underlying50 Tryz.underlying3 hm2 (fun e hx => by obtain ⟨j, _, a, _⟩ := he e hx; exact ⟨j, a⟩) i hno (.pointer (some ⟨g, 0, none⟩))
    obtain ⟨es2, hes2⟩ : ∃ es2, es2 = es.push { key := .int .i64 i, val := .pointer (some ⟨g, 0, none⟩), born := c } := ⟨_, rfl⟩
    rw [← hes2] at hput
    obtain ⟨w3, hw3⟩ : ∃ w3, w3 = setBlock (w1.alloc (.cells mz 102)) m (.map es2 (c + 1)) := ⟨_, rfl⟩
    have hr3 : w3.heap[r]? = some (.cells ((Ri.cells M boot n cur m).setIfInBounds 3 (.int .i32 1)) 62 (0, 0)) := by rw [hw3, Ri.block_other hne]; exact hr2
    have hm3 : w3.heap[m]? = some (.map es2 (c + 1)) := by rw [hw3]; exact Ri.block_set (Sm.lt_of hm2)
    have hg3 : w3.heap[g]? = some (.cells mz 102 (0, 0)) := by rw [hw3, Ri.block_other (by omega)]; exact hg2
    have hs3 : w3.heap.size = w.heap.size + 1 := by rw [hw3, Ri.block_size]; simp; omega
    have ho3 : ∀ b, b < w.heap.size → b ≠ m → b ≠ r → w3.heap[b]? = w.heap[b]? := fun b hb h1 h2 => by
      rw [hw3, Ri.block_other h1]
      exact (b2.block b (by omega)).trans (k1.block b hb (fun e => h2 (Option.some.inj e)))
    have hgr3 : w3.os = w.os ∧ w3.tape = w.tape ∧ w3.output = w.output := by
      rw [hw3]
      exact ⟨b2.os.trans k1.os, b2.tape.trans k1.tape, b2.output.trans k1.output⟩
    have hr4 := Sm.heap_set hr3 3 (.int .i32 0)
    rw [Ri.cells_back] at hr4
    have UL := Lib.hid (Ri.unlock_deferred ⟨r, 3, none⟩ .returning w3 (Sm.cells_of hr3 3 _ (by rw [Array.getElem?_setIfInBounds]; rfl)) (Sm.free_of hr3 3))
    have POST : Hid (Ri.Slot w r m M boot n cur i (.returned (.pointer (some ⟨g, 0, none⟩))) (w3.setCell ⟨r, 3, none⟩ (.int .i32 0))) := by
      refine ⟨g, rfl, ⟨hgr3.1, hgr3.2.1, hgr3.2.2, by simp; omega, fun b hb hn => ?_⟩, hr4, .inr ⟨by omega, ?_, es2, c + 1, ?_, fun e hx => ?_⟩⟩
      · by_cases hbr : b = r
        · rw [hbr, hr4, h.ring]
        · rw [Below.heap_setCell _ _ _ _ hbr]
          exact ho3 b hb (fun e => hn (by rw [e])) hbr
      · rw [Below.heap_setCell _ _ _ _ (by show g ≠ r; omega), hg3, hmz]
      · rw [Below.heap_setCell _ _ _ _ (by show m ≠ r; omega)]; exact hm3
      · rw [hes2, Array.toList_push, List.mem_append, List.mem_singleton] at hx
        rcases hx with hx | rfl
        · exact .inl (he e hx)
        · exact .inr ⟨rfl, rfl⟩
    rw [← hw3, hgg] at hput
    rw [hgg] at POST
    clear hw1 c3 f3 k1 hr1 hb hm hm1 he he1 h hne s1 hno hms hmo hlr hlm b2 hg2 hm2 hr2 hes2 hr3 hm3 hg3 hs3 ho3 hgr3 hr4 hmz HB HR1 HM1 HE HM H HE1 K1
    clear hw3 hgg
    go_enter_defers Tryz.func42, Tryz.ntmps42
    go_wp2_with fail
    refine (LK.out).mono ?_
    rintro e w2 ⟨rfl, rfl⟩
    go_wp2_with (with_reducible refine wpList_build_eq rfl 102 _ rfl mz (by with_unfolding_all exact BE.out) ?_)
    refine leaves_cons (f := 29) (args := #[.pointer (some ⟨r, 3, none⟩)]) (by simp) (by simp [go_sem]) ?_
    refine (UL.out).mono ?_
    rintro e u' w'' ⟨rfl, rfl, rfl⟩
    refine ⟨_, results_tmp rfl _ _ _, ?_⟩
    have hp := POST.out
    generalize w3.setCell ⟨r, 3, none⟩ (.int .i32 0) = w4 at *
    exact hp
end Go.Proofs.YtibpgmcpcelmpaaGreatDoor

/-
  ring's key: the key i, made when it is first asked for.
-/
namespace Go.Proofs.YtibpgmcpcelmpaaGreatDoor
open Go.RowKit
namespace Ri
/-- What a made key's cells are, between. -/
def made1 (k : List UInt8) : Array Value := ([Value.int .u32 0, .int .i32 1, .int .u32 0] ++ Lib.byteCells k).toArray
theorem made0_take : (made0.setIfInBounds 1 (.int .i32 1)).toList.take 3 = [Value.int .u32 0, .int .i32 1, .int .u32 0] := by kernel_rfl
theorem made1_of (k : List UInt8) : ((made0.setIfInBounds 1 (.int .i32 1)).toList.take 3 ++ Lib.byteCells k).toArray = made1 k := by
  rw [made0_take]
  unfold made1
  with_reducible rfl
theorem made_end (k : List UInt8) : ((made1 k).setIfInBounds 0 (.int .u32 1)).setIfInBounds 1 (.int .i32 0) = ([Value.int .u32 1, .int .i32 0, .int .u32 0] ++ Lib.byteCells k).toArray := by
  apply Array.ext'
  simp [made1]
theorem enter_make (caps : Array Value) : (callFunc 44 caps).run Tryz.prog = fun w => .ok (.enter 44 caps) w :=
  funext fun w => Go.MuLone.run_callFunc_enter Tryz.func44 (by kernel_rfl) rfl caps w
/-- What key answers. -/
def KeyPost (w : World) (r m : Nat) (M : ByteArray) (boot n : Nat) (cur i : Int) (e : Ending) (w' : World) : Prop :=
  e = .returned (.agg (Lib.byteCells (key M.data.toList i)).toArray) ∧ RingAt w' r m M boot n cur ∧ w.grownBy w' (some m)
theorem made_block {w : World} {g : Nat} {k : List UInt8} (h : MadeAt w g k) : w.rangeAt g 3 (Lib.byteCells k) := fun j v hv => by
  refine Sm.cells_of h (3 + j) v ?_
  rw [List.getElem?_toArray, List.getElem?_append_right (by simp)]
  simpa using hv
end Ri

set_option maxRecDepth 100000 in
set_option maxHeartbeats 1600000 in
theorem rgkey_any {w : World} (hH : Sm.HAt w) (hK : Sm.KAt w) {r m : Nat} {M : ByteArray} (hM : M.size ≤ 1152921504606846976) {boot n : Nat} {cur : Int} (h : Ri.RingAt w r m M boot n cur) (i : Int) :
    Calls Tryz.prog 22 #[.pointer (some ⟨r, 0, none⟩), .int .i64 i] w (Ri.KeyPost w r m M boot n cur i) := by
  obtain ⟨zk, hzk⟩ : ∃ z, z = Sm.rowB 32 [] := ⟨_, rfl⟩
  have hzzk := (zero_of_info Ri.zeroKey).1
  rw [← hzk] at hzzk
  have hzks : zk.size = 32 := by rw [hzk]; exact Sm.rowB_size (by simp)
  obtain ⟨N, hN⟩ : ∃ N, N = w.heap.size := ⟨_, rfl⟩
  obtain ⟨w3, hw3⟩ : ∃ x, x = ((w.alloc (.cells #[.pointer (some ⟨r, 0, none⟩)] 26)).alloc (.cells #[.int .i64 i] 3)).alloc (.cells zk 74) := ⟨_, rfl⟩
  have b3 : Below N w w3 := by
    rw [hw3, hN]; exact (((Below.refl _ w).alloc (Nat.le_refl _) _).alloc (by simp) _).alloc (by simp; omega) _
  have s3 : w3.heap.size = N + 3 := by rw [hw3, hN]; simp
  have p0 : w3.heap[N]? = some (.cells #[.pointer (some ⟨r, 0, none⟩)] 26 (0, 0)) := by
    rw [hw3, Below.heap_alloc _ _ _ (by simp; omega), Below.heap_alloc _ _ _ (by simp; omega), hN]; exact heap_alloc_new w _
  have p1 : w3.heap[N + 1]? = some (.cells #[.int .i64 i] 3 (0, 0)) := by
    rw [hw3, Below.heap_alloc _ _ _ (by simp; omega), hN]
    simpa using heap_alloc_new (w.alloc (.cells #[.pointer (some ⟨r, 0, none⟩)] 26)) (.cells #[.int .i64 i] 3)
  have p2 : w3.heap[N + 2]? = some (.cells zk 74 (0, 0)) := by
    rw [hw3, hN]
    simpa using heap_alloc_new ((w.alloc (.cells #[.pointer (some ⟨r, 0, none⟩)] 26)).alloc (.cells #[.int .i64 i] 3)) (.cells zk 74)
  have SL := Lib.hid (rgSlot_any (h.below b3 (by omega)) i)
  have H := Lib.hid h
  have HH := Lib.hid hH
  have HK := Lib.hid hK
  have HN := Lib.hid hN
  have P0 := Lib.hid p0
  have P1 := Lib.hid p1
  have P2 := Lib.hid p2
  have hlt := h.lt
  have C0 : Hid (w3.cell? ⟨N, 0, none⟩ = some (.pointer (some ⟨r, 0, none⟩))) := Sm.cells_of p0 0 _ rfl
  have C1 : Hid (w3.cell? ⟨N + 1, 0, none⟩ = some (.int .i64 i)) := Sm.cells_of p1 0 _ rfl
  clear hzk p0 p1 p2 h hH hK
  go_enter Tryz.func22, Tryz.ntmps22
  go_upto_region 1 with (fail)
  rw [← hw3, ← HN.out]
  clear hzzk hw3 hN
  have c0 := C0.out
  have c1 := C1.out
  go_wp2_with fail
  refine (SL.out).mono ?_
  intro e w4 hs
  obtain ⟨g, rfl, k4, hr4, hcase⟩ := hs
  have hmN : m < N := by have := hlt.2; have := HN.out; omega
  have q0 := (k4.block N (by omega) (fun e => by have := Option.some.inj e; omega)).trans P0.out
  have q1 := (k4.block (N + 1) (by omega) (fun e => by have := Option.some.inj e; omega)).trans P1.out
  have q2 := (k4.block (N + 2) (by omega) (fun e => by have := Option.some.inj e; omega)).trans P2.out
  have s4 := k4.size
  go_upto_region 2 with (fail)
  obtain ⟨K, hK'⟩ : ∃ K, K = w4.heap.size := ⟨_, rfl⟩
  rw [← hK']
  have q3 := heap_alloc_new w4 (.cells #[.pointer (some ⟨g, 0, none⟩)] 95)
  rw [← hK'] at q3
  have b5 : Below K w4 (w4.alloc (.cells #[.pointer (some ⟨g, 0, none⟩)] 95)) := by rw [hK']; exact (Below.refl _ w4).alloc (Nat.le_refl _) _
  have s5 : (w4.alloc (.cells #[.pointer (some ⟨g, 0, none⟩)] 95)).heap.size = K + 1 := by rw [hK']; simp
  have q0 := (b5.block N (by omega)).trans q0
  have q1 := (b5.block (N + 1) (by omega)).trans q1
  have q2 := (b5.block (N + 2) (by omega)).trans q2
  have r5 := (b5.block r (by have := Sm.lt_of hr4; omega)).trans hr4
  have c3 : (w4.alloc (.cells #[.pointer (some ⟨g, 0, none⟩)] 95)).cell? ⟨K, 0, none⟩ = some (.pointer (some ⟨g, 0, none⟩)) := Sm.cells_of q3 0 _ rfl
  have hm2 := (H.out.two HH.out HK.out)
  have lm4 : m < w4.heap.size := by have := b3.size; omega
  have e0 : N + 1 + 1 = N + 2 := rfl
  have DO : Hid (Calls Tryz.prog 43 #[.pointer (some ⟨g, 0, none⟩), .func (.func 44) #[] #[.pointer (some ⟨N, 0, none⟩), .pointer (some ⟨N + 1, 0, none⟩), .pointer (some ⟨K, 0, none⟩)]] (w4.alloc (.cells #[.pointer (some ⟨g, 0, none⟩)] 95)) fun e w' =>
      e = .returned (.tuple #[]) ∧ Ri.MadeAt w' g (Ri.key M.data.toList i) ∧ Ri.KeysAt w' m M.data.toList ∧ w'.heap[r]? = some (.cells (Ri.cells M boot n cur m) 62 (0, 0)) ∧ w'.heap[N + 2]? = some (.cells zk 74 (0, 0)) ∧
        w'.heap[K]? = some (.cells #[.pointer (some ⟨g, 0, none⟩)] 95 (0, 0)) ∧ w.grownBy w' (some m)) := by
    have g3 : w.grownBy w3 (some m) := ⟨b3.os, b3.tape, b3.output, b3.size, fun b hb _ => b3.block b (by have := HN.out; omega)⟩
    have g4 : w.grownBy w4 (some m) := Sm.grown_trans g3 k4
    have g5 : w.grownBy (w4.alloc (.cells #[.pointer (some ⟨g, 0, none⟩)] 95)) (some m) :=
      Sm.grown_trans g4 ⟨b5.os, b5.tape, b5.output, b5.size, fun b hb _ => b5.block b (by omega)⟩
    rcases hcase with ⟨hmade, hkeys⟩ | ⟨hNg, hg4, es, c, hm4, hes⟩
    · have hg5 : Ri.MadeAt (w4.alloc (.cells #[.pointer (some ⟨g, 0, none⟩)] 95)) g (Ri.key M.data.toList i) := (b5.block g (by have := Sm.lt_of hmade; omega)).trans hmade
      have keys5 : Ri.KeysAt (w4.alloc (.cells #[.pointer (some ⟨g, 0, none⟩)] 95)) m M.data.toList := hkeys.keep (b5.block m (by omega)) (fun g' _ hg' => b5.block g' (by have := Sm.lt_of hg'; omega))
      exact (Ri.do_done ⟨g, 0, none⟩ _ _ (Sm.cells_of hg5 0 _ rfl)).mono fun e w' ⟨h1, h2⟩ => by
        subst h2
        exact ⟨h1, hg5, keys5, r5, q2, q3, g5⟩
    · have hg5 := (b5.block g (by have := Sm.lt_of hg4; omega)).trans hg4
      have low : Below 2 w (w4.alloc (.cells #[.pointer (some ⟨g, 0, none⟩)] 95)) := ⟨g5.os, g5.tape, g5.output, g5.size, fun b hb => g5.block b (by omega) (fun e => by have := Option.some.inj e; omega)⟩
      have low' : Below 2 w ((w4.alloc (.cells #[.pointer (some ⟨g, 0, none⟩)] 95)).setCell ⟨g, 1, none⟩ (.int .i32 1)) := low.setCell (by show 2 ≤ g; omega) _
      have hgs := Sm.heap_set hg5 1 (.int .i32 1)
      have far : ∀ b, b ≠ g → ((w4.alloc (.cells #[.pointer (some ⟨g, 0, none⟩)] 95)).setCell ⟨g, 1, none⟩ (.int .i32 1)).heap[b]? = (w4.alloc (.cells #[.pointer (some ⟨g, 0, none⟩)] 95)).heap[b]? := fun b hb => Below.heap_setCell _ _ _ _ hb
      have n0 := Ri.ne_type q0 hg5 Ri.types_made.1
      have n1 := Ri.ne_type q1 hg5 Ri.types_made.2.1
      have n2 := Ri.ne_type q2 hg5 (show 74 ≠ 102 by decide)
      have n3 := Ri.ne_type q3 hg5 Ri.types_made.2.2.1
      have nr := Ri.ne_type r5 hg5 Ri.types_made.2.2.2
      have hm5 := (b5.block m (by omega)).trans hm4
      have nm := Ri.ne_map hg5 hm5
      have F := rgMake_any (HH.out.low low' (by decide)) (HK.out.low low' (by decide)) (by have := low'.size; omega) M hM i ((far _ n0).trans q0) ((far _ n1).trans q1) ((far _ n3).trans q3) ((far _ nr).trans r5) (show (Ri.cells M boot n cur m)[0]? = some (.string M) from rfl) hgs (by rw [Array.size_setIfInBounds]; exact Ri.made0_size)
      rw [Ri.made1_of] at F
      have D := Ri.do_first (caps := #[.pointer (some ⟨N, 0, none⟩), .pointer (some ⟨N + 1, 0, none⟩), .pointer (some ⟨K, 0, none⟩)]) hg5 rfl rfl rfl rfl (Ri.enter_make _) F
      refine D.mono fun e w' ⟨h1, h2, h3⟩ => ?_
      rw [Ri.made_end] at h2
      refine ⟨h1, h2, ?_, (h3.block r (Sm.lt_of r5) (fun e => nr (Option.some.inj e))).trans r5, (h3.block _ (Sm.lt_of q2) (fun e => n2 (Option.some.inj e))).trans q2, (h3.block _ (Sm.lt_of q3) (fun e => n3 (Option.some.inj e))).trans q3, ?_⟩
      · refine ⟨es, c, (h3.block m (Sm.lt_of hm5) (fun e => nm (Option.some.inj e).symm)).trans hm5, fun e hx => ?_⟩
        rcases hes e hx with ⟨j, g', a, b, hg'⟩ | ⟨a, b⟩
        · have l3 : g' < w3.heap.size := Sm.lt_of hg'
          have ng : g' ≠ g := by omega
          exact ⟨j, g', a, b, (h3.block g' (by omega) (fun e => ng (Option.some.inj e))).trans ((b5.block g' (by omega)).trans ((k4.block g' l3 (fun e => by have h9 := Option.some.inj e; have := k4.block; exact absurd h9 (by rintro rfl; have h8 := H.out.keys; obtain ⟨_, _, h7, _⟩ := h8; have h6 := (b3.block g' (by have := Sm.lt_of h7; have := HN.out; omega)).trans h7; rw [show w3.heap[g']? = _ from hg'] at h6; cases h6))).trans hg'))⟩
        · exact ⟨i, g, a, b, h2⟩
      · refine ⟨h3.os.trans g5.os, h3.tape.trans g5.tape, h3.output.trans g5.output, Nat.le_trans g5.size h3.size, fun b hb hn => ?_⟩
        have hbg : b ≠ g := by have := b3.size; omega
        exact (h3.block b (by have := g5.size; omega) (fun e => hbg (Option.some.inj e))).trans (g5.block b hb hn)
  have hmf : ∀ (fn : Fn) (first cap : Array Value) (w : World), (Instr.makeFunc fn first cap).run Tryz.prog w = .ok (.func fn first cap) w := fun _ _ _ _ => rfl
  obtain ⟨co, hco⟩ : ∃ c, c = Lib.byteCells (Ri.key M.data.toList i) := ⟨_, rfl⟩
  have hcol : co.length = 32 := by rw [hco, Lib.byteCells_length, Ri.key_length]
  have hone : co.toArray.all (·.oneCell') = true := by rw [hco]; exact Sm.bytes_one _
  have hick := Ri.infoKey hcol
  have hickl : (Tryz.prog.info? 74).map (·.size) = some co.length := by rw [hcol]; kernel_rfl
  have HCO := Lib.hid hco
  clear hK' hcase hco q0 q1 q2 q3 b5 s5 r5 k4 hr4 hm2 lm4 e0 hmN s4 c0 c1 C0 C1 P0 P1 P2 SL
  rw [show N + 1 + 1 = N + 2 from rfl]
  generalize w4.alloc (.cells #[.pointer (some ⟨g, 0, none⟩)] 95) = w5 at *
  go_wp2_with fail
  refine (DO.out).mono ?_
  rintro e w6 ⟨rfl, m6, y6, r6, z6, x6, g6⟩
  have HM6 := Lib.hid m6
  have HY6 := Lib.hid y6
  have HR6 := Lib.hid r6
  have HZ6 := Lib.hid z6
  have HG6 := Lib.hid g6
  have hra := Ri.made_block m6
  rw [← HCO.out] at hra
  have HRA := Lib.hid hra
  have c6 : w6.cell? ⟨K, 0, none⟩ = some (.pointer (some ⟨g, 0, none⟩)) := Sm.cells_of x6 0 _ rfl
  clear m6 y6 r6 z6 g6 hra x6 DO
  go_wp2_with (first | (with_reducible refine wpList_load_mid rfl 74 (.tmp 16) rfl g 3 rfl co _ (by exact HRA.out) Tryz.underlying74 rfl hickl ?_) | (with_reducible refine wpList_store_row rfl 74 (.tmp 4) (.tmp 17) rfl (N + 2) co.toArray rfl rfl 74 _ (by exact HZ6.out) hick (by rw [hzks, List.size_toArray, hcol]) hone ?_))
  have nz := Ri.ne_type HZ6.out HR6.out (show 74 ≠ 62 by decide)
  have kfin : w.grownBy (w6.setRow (N + 2) co.toArray) (some m) := ⟨HG6.out.os, HG6.out.tape, HG6.out.output, by rw [size_setRow]; exact HG6.out.size, fun b hb hn => by
    rw [setRow_other _ _ _ _ (by have := HN.out; omega)]; exact HG6.out.block b hb hn⟩
  refine bodyPost_ret (v := .agg co.toArray) (results_cell_row rfl _ _ (N + 2) 74 _ (0, 0) _ rfl (setRow_heap _ (N + 2) _ _ _ _ HZ6.out) Tryz.underlying74 rfl hick) rfl ⟨by rw [HCO.out], ⟨?_, ?_⟩, kfin⟩
  · rw [setRow_other _ _ _ _ (Ne.symm nz)]; exact HR6.out
  · refine HY6.out.keep (setRow_other _ _ _ _ ?_) (fun g' k' hg' => setRow_other _ _ _ _ ?_)
    · have := H.out.lt.2; have := HN.out; omega
    · exact Ri.ne_type hg' HZ6.out (show 102 ≠ 74 by decide)
end Go.Proofs.YtibpgmcpcelmpaaGreatDoor
