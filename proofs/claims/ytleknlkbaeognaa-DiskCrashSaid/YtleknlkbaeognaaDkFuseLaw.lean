/-
  DiskFuse: a fuse of n lets just n acts be done.
-/
import Derived.Test.YtleknlkbaeognaaDkRun
namespace Go.Proofs.Ytleknlkbaeognaa
open Go.RowKit
namespace Dk
/-- What one act leaves: the disk, the fuse that is left, whether the power is off; what it answers. -/
def isAct (M : Md) (a : Ac) : Bool := if a.d = 0 then there M a.i && decide ((data a).length = 64) else if a.d = 1 then true else false
def got (M : Md) (a : Ac) : Int := if a.d = 0 then (write M a.i (data a)).2 else if a.d = 1 then (sync M).2 else if a.d = 5 then (readOf M a.i).2 else 0
def fuseStep (M : Md) (a : Ac) : Md := if a.d = 0 then (write M a.i (data a)).1 else if a.d = 1 then (sync M).1 else M
theorem fs0 {M : Md} {a : Ac} (h : a.d = 0) : fuseStep M a = (write M a.i (data a)).1 := by simp [fuseStep, h]
theorem fs1 {M : Md} {a : Ac} (h : a.d = 1) : fuseStep M a = (sync M).1 := by simp [fuseStep, h]
theorem fs5 {M : Md} {a : Ac} (h : a.d ≠ 0 ∧ a.d ≠ 1) : fuseStep M a = M := by simp [fuseStep, h]
/-- The power is off, and the fuse is at its end, or as much of it is left. -/
def Burns (M : Md) (left : Nat) (off : Bool) : Prop := M.off = off ∧ (off = false → M.fuse = (left : Int))
theorem act_off (M : Md) (b : Bool) (h : M.off = b) : (act M).1.off = (if M.fuse = 0 then true else b) := by
  unfold act
  split
  · rfl
  · split <;> exact h
theorem act_burns {M : Md} {left : Nat} (h : Burns M left false) : (left = 0 → (act M).2 = false ∧ Burns (act M).1 0 true) ∧ (left ≠ 0 → (act M).2 = true ∧ Burns (act M).1 (left - 1) false) := by
  obtain ⟨h1, h2⟩ := h
  have h2 := h2 rfl
  constructor
  · intro e
    have : M.fuse = 0 := by rw [h2, e]; rfl
    exact ⟨by simp [act, this], by simp [act, this], fun e => by cases e⟩
  · intro e
    have n0 : M.fuse ≠ 0 := by rw [h2]; omega
    have n1 : M.fuse > 0 := by rw [h2]; omega
    refine ⟨by simp [act, n0, n1], by simp [act, n0, n1, h1], fun _ => ?_⟩
    simp only [act, n0, if_false, n1, if_true]
    rw [h2]; omega
theorem burns_put {M : Md} {left : Nat} {off : Bool} (h : Burns M left off) (i : Nat) (b : List UInt8) : Burns (put M i b) left off := h
theorem burns_synced {M : Md} {left : Nat} {off : Bool} (h : Burns M left off) : Burns (synced M) left off := h
/-- What becomes of the count that the statement keeps. -/
def nOff (act_ : Bool) (left : Nat) (off : Bool) : Bool := off || (act_ && decide (left = 0))
def nLeft (act_ : Bool) (left : Nat) (off : Bool) : Nat := if act_ && !off && !decide (left = 0) then left - 1 else left
theorem write_burns {M : Md} {left : Nat} {off : Bool} (h : Burns M left off) (i : Int) (s : List UInt8) :
    Burns (write M i s).1 (nLeft (there M i && decide (s.length = 64)) left off) (nOff (there M i && decide (s.length = 64)) left off) ∧
    (write M i s).2 = (if nOff (there M i && decide (s.length = 64)) left off then 14 else if there M i && decide (s.length = 64) then 0 else 1) := by
  cases off
  · have h1 := h.1
    cases hc : there M i && decide (s.length = 64)
    · simp [write, h1, hc, nLeft, nOff]
      exact h
    · by_cases h0 : left = 0
      · obtain ⟨e1, e2⟩ := (act_burns h).1 h0
        subst h0
        simp [write, h1, hc, e1, nLeft, nOff]
        exact e2
      · obtain ⟨e1, e2⟩ := (act_burns h).2 h0
        simp [write, h1, hc, e1, nLeft, nOff, h0]
        exact burns_put e2 _ _
  · have h1 := h.1
    simp [write, h1, nLeft, nOff]
    exact h
theorem sync_burns {M : Md} {left : Nat} {off : Bool} (h : Burns M left off) :
    Burns (sync M).1 (nLeft true left off) (nOff true left off) ∧ (sync M).2 = (if nOff true left off then 14 else 0) := by
  cases off
  · have h1 := h.1
    by_cases h0 : left = 0
    · obtain ⟨e1, e2⟩ := (act_burns h).1 h0
      subst h0
      simp [sync, h1, e1, nLeft, nOff]
      exact e2
    · obtain ⟨e1, e2⟩ := (act_burns h).2 h0
      simp [sync, h1, e1, nLeft, nOff, h0]
      exact burns_synced e2
  · have h1 := h.1
    simp [sync, h1, nLeft, nOff]
    exact h
theorem read_burns {M : Md} {left : Nat} {off : Bool} (h : Burns M left off) (i : Int) : (readOf M i).2 = (if off then 14 else if there M i then 0 else 1) := by
  have h1 := h.1
  cases off
  · cases ht : there M i <;> simp [readOf, h1, ht]
  · simp [readOf, h1]
end Dk
set_option maxRecDepth 100000 in
set_option maxHeartbeats 4000000 in
theorem diskfuse_any (W : World) (n f : UInt8) {A : Option Addr} {c : Nat} {l : List Dk.Ac} (hl : l.length ≤ 9223372036854775807) (hit : Dk.listAt W A l) (hs : ∀ a ∈ l, a.Ok W) :
    Calls Try.prog 8 #[.int .u8 n.toNat, .int .u8 f.toNat, .slice A l.length c] W fun e w' => e = .returned (.bool true) ∧ Below W.heap.size W w' := by
  obtain ⟨gr, hgr⟩ : ∃ g : Bool, (g = true ↔ ¬ Dk.Fair l) := by by_cases h : Dk.Fair l; exact ⟨false, by simp [h]⟩; exact ⟨true, by simp [h]⟩
  have HIT := Lib.hid hit
  have HS := Lib.hid hs
  have GR : Hid (∀ wx, Below W.heap.size W wx → Calls Try.prog 24 #[.slice A l.length c] wx fun e w' => e = .returned (.bool gr) ∧ wx = w') := fun wx hx => great7_any hl (HIT.out.below hx) hs gr hgr
  have AW := Lib.hid (awake7_any W)
  clear hit hs
  by_cases hgrt : gr = true
  · subst hgrt
    clear hgr
    go_enter Try.func8, Try.ntmps8
    go_wp2_with fail
    refine (AW.out).mono ?_
    rintro e w1 ⟨rfl, b1⟩
    go_wp2_with fail
    refine (GR.out w1 b1).mono ?_
    rintro e w2 ⟨rfl, rfl⟩
    go_wp2
    go_ret
    exact ⟨rfl, b1⟩
  · have hgf : gr = false := by simpa using hgrt
    subst hgf
    have hfair : Dk.Fair l := Classical.byContradiction fun h => by have := hgr.2 h; cases this
    have hfl := hfair.1
    clear hgr hgrt hfair
    obtain ⟨nn, hnn⟩ : ∃ nn, nn = n.toNat % 40 := ⟨_, rfl⟩
    have hnl := n.toNat_lt
    have hfl8 := f.toNat_lt
    have hm40 : ((n.toNat : Int)).tmod 40 = (nn : Int) := by rw [hnn, Int.tmod_eq_emod_of_nonneg (by omega)]; omega
    have hw8 : IntKind.u8.wrap (nn : Int) = nn := by simp [IntKind.wrap, IntKind.bits, IntKind.signed]; omega
    have hw64 : IntKind.i64.wrap (nn : Int) = nn := by simp [IntKind.wrap, IntKind.bits, IntKind.signed]; omega
    obtain ⟨N, hN⟩ : ∃ N, N = nn + 1 := ⟨_, rfl⟩
    have hw641 : IntKind.i64.wrap (1 + (nn : Int)) = (N : Int) := by rw [hN]; simp [IntKind.wrap, IntKind.bits, IntKind.signed]; omega
    have hNr : 1 ≤ N ∧ N ≤ 4096 := by omega
    obtain ⟨ff, hff⟩ : ∃ ff, ff = f.toNat % 61 := ⟨_, rfl⟩
    have hm61 : ((f.toNat : Int)).tmod 61 = (ff : Int) := by rw [hff, Int.tmod_eq_emod_of_nonneg (by omega)]; omega
    have hwf8 : IntKind.u8.wrap (ff : Int) = ff := by simp [IntKind.wrap, IntKind.bits, IntKind.signed]; omega
    have hwf64 : IntKind.i64.wrap (ff : Int) = ff := by simp [IntKind.wrap, IntKind.bits, IntKind.signed]; omega
    have hf60 : ff ≤ 60 := by omega
    have HNR := Lib.hid hNr
    have HF60 := Lib.hid hf60
    clear hnn hN hff hnl hfl8 hNr hf60
    go_enter Try.func8, Try.ntmps8
    go_wp2_with fail
    refine (AW.out).mono ?_
    rintro e w1 ⟨rfl, b1⟩
    go_wp2_with fail
    refine (GR.out w1 b1).mono ?_
    rintro e w2 ⟨rfl, rfl⟩
    go_wp2_with fail
    refine (Dk.new_in b1 (Nat.le_refl _) N HNR.out).mono ?_
    rintro e w2 ⟨r, fp2, rfl, o2, -, -⟩
    clear b1
    go_wp2_with fail
    refine (Dk.fuse_in o2 (ff : Int) (by have := HF60.out; omega)).mono ?_
    rintro e w3 ⟨fp3, rfl, st3⟩
    have O3 := Lib.hid st3.own
    clear o2 st3 GR AW
    go_wp2
    go_loopw [9, 10, 11, 12, 13, 14, 15, 16] (fun s9 s10 s11 _ _ _ _ _ wr => ∃ (k left : Nat) (off : Bool) (fp' : Nat → Prop) (M : Dk.Md), s9 = .int .i64 left ∧ s10 = .bool off ∧ s11 = .int .i64 k ∧ k ≤ l.length ∧ left ≤ 60 ∧ Dk.Own W.heap.size W wr r fp' M ∧ Dk.Burns M left off ∧ Dk.waits M ≤ k) (fun _ _ s11 _ _ _ _ _ _ => l.length - (intOf s11).toNat)
    case atStart => exact ⟨0, ff, false, fp3, _, rfl, rfl, rfl, Nat.zero_le _, HF60.out, O3.out, ⟨rfl, fun _ => rfl⟩, Nat.le_of_eq (Dk.waits_new N)⟩
    case round =>
      obtain ⟨k, left, off, fp1, M1, rfl, rfl, rfl, hk, hleft, how, hbu, hwt⟩ := hrel
      have OW := Lib.hid how
      have BU := Lib.hid hbu
      have HWT := Lib.hid hwt
      have hbl : Below W.heap.size W wr := how.below
      clear how hbu hwt O3
      by_cases hlt : k < l.length
      · have hlt1 : (k : Int) < l.length := by omega
        obtain ⟨b, ao, rfl, hbW, hat⟩ : ∃ b ao, A = some ⟨b, ao, none⟩ ∧ b < W.heap.size ∧ Dk.actsAt W b ao l := by
          rcases HIT.out with h | h
          · rw [h] at hlt; simp at hlt
          · exact h
        obtain ⟨c0, c1, c2, c3, c4, c5, c6⟩ := (hat k hlt).below hbl hbW
        obtain ⟨a, ha⟩ : ∃ a, a = l[k] := ⟨_, rfl⟩
        have hok := HS.out _ (List.getElem_mem hlt)
        rw [← ha] at c0 c1 c2 c3 c4 c5 c6 hok
        have HOK := Lib.hid hok
        have HWK : Hid (Dk.waits M1 ≤ 1099511627776) := by show _ ≤ _; have := HWT.out; omega
        have HNF : Hid (¬ fp1 wr.heap.size) := by show ¬ _; intro e; have := OW.out.lt _ e; omega
        have O1 := Lib.hid (OW.out.low ((Below.refl wr.heap.size wr).alloc (Nat.le_refl _) (.cells a.cells.toArray 50)))
        have hg1 := heap_alloc_new wr (.cells a.cells.toArray 50)
        have hsuc : IntKind.i64.wrap ((k : Int) + 1) = ((k + 1 : Nat) : Int) := by simp [IntKind.wrap, IntKind.bits, IntKind.signed]; omega
        have DA : Hid (∀ wx : World, Calls Try.prog 28 #[.agg a.cells.toArray] wx fun e w' => e = .returned (.string ⟨(Dk.data a).toArray⟩) ∧ Below wx.heap.size wx w') := fun wx => data7_any wx a
        obtain ⟨kA, kc, hkv, -⟩ := hok.keep
        clear ha hok hbl OW hat
        unfold Dk.Ac.cells at *
        rw [hkv] at c6 hg1 O1 DA
        obtain ⟨sd, hsd⟩ : ∃ s : ByteArray, s = ⟨(Dk.data a).toArray⟩ := ⟨_, rfl⟩
        have hsdd : sd.data.toList = Dk.data a := by rw [hsd]
        have hsz : sd.size = (Dk.data a).length := by rw [hsd]; rfl
        rw [← hsd] at DA
        have HSD := Lib.hid hsdd
        have HSZ := Lib.hid hsz
        clear hkv hsd hsdd hsz
        go_upto_region 15 with (fail)
        clear c0 c1 c2 c3 c4 c5 c6
        obtain ⟨P, hP⟩ : ∃ P, P = wr.heap.size := ⟨_, rfl⟩
        rw [← hP] at hg1 HNF ⊢
        clear hP
        generalize wr.alloc (.cells #[.int .i64 a.d, .int .i64 a.i, .int .i64 a.n, .string a.b, .string a.x, .int .u8 a.y.toNat, .slice kA a.keep.length kc] 50) = w1 at *
        obtain ⟨cs, hcs⟩ : ∃ cs : List Value, cs = [.int .i64 a.d, .int .i64 a.i, .int .i64 a.n, .string a.b, .string a.x, .int .u8 a.y.toNat, .slice kA a.keep.length kc] := ⟨_, rfl⟩
        rw [← hcs] at DA
        have hG : w1.heap[P]? = some (.cells cs.toArray 50 (0, 0)) := by rw [hcs]; exact hg1
        have hcl : (Try.prog.info? 50).map (·.size) = some cs.length := by rw [hcs]; kernel_rfl
        have HC0 : Hid (cs.toArray[0]? = some (.int .i64 a.d)) := by show _ = _; rw [hcs]; rfl
        have HC1 : Hid (cs.toArray[1]? = some (.int .i64 a.i)) := by show _ = _; rw [hcs]; rfl
        have HCL := Lib.hid hcl
        have HGG := Lib.hid hG
        clear hg1 hcs hcl hG
        go_cut [13] from 37 to 116 (fun s13 wx => s13 = .bool (Dk.there M1 a.i) ∧ w1.drew = wx)
        case first =>
          have O1d := Lib.hid (O1.out.low ((Below.refl w1.heap.size w1).drew))
          have SEC := Lib.hid (Dk.sectors_in O1d.out)
          have d1 : w1.drew.cell? ⟨P, 1, none⟩ = some (.int .i64 a.i) := Sm.cells_of HGG.out 1 _ HC1.out
          have D1 := Lib.hid d1
          clear d1
          by_cases hi0 : 0 ≤ a.i
          · refine wp_region_held_drew (S := (fun w' => w' = w1.drew)) (by kernel_rfl) rfl (fun hHeld => ?_)
            refine wpAnyH_take (i := 0) (oi := ⟨some 47, _, _, _, _, _⟩) (v := .pointer (some ⟨P, 1, none⟩)) rfl (by kernel_rfl) (by kernel_rfl) (by kernel_rfl) (fun _ _ _ h => h) (Or.inl ⟨by rfl, ?_⟩) (by assumption) ?_
            · intro w hSw; (try dsimp only at hSw); go_simp
            simp only [Act.put, List.setIfInBounds_toArray, List.set_cons_zero, List.set_cons_succ]
            refine wpAnyH_take (i := 1) (oi := ⟨some 48, _, _, _, _, _⟩) (v := .int .i64 a.i) rfl (by kernel_rfl) (by kernel_rfl) (by kernel_rfl) (fun _ _ _ h => h) (Or.inl ⟨by rfl, ?_⟩) (by assumption) ?_
            · intro w hSw; (try dsimp only at hSw); subst hSw; have d1 := D1.out; go_simp
            simp only [Act.put, List.setIfInBounds_toArray, List.set_cons_zero, List.set_cons_succ]
            refine wpAnyH_take (i := 2) (oi := ⟨some 49, _, _, _, _, _⟩) (v := .bool true) rfl (by kernel_rfl) (by kernel_rfl) (by kernel_rfl) (fun _ _ _ h => h) (Or.inl ⟨by rfl, ?_⟩) (by assumption) ?_
            · intro w hSw; (try dsimp only at hSw); go_simp
            simp only [Act.put, List.setIfInBounds_toArray, List.set_cons_zero, List.set_cons_succ]
            refine wpAnyH_take (i := 3) (oi := ⟨some 50, _, _, _, _, _⟩) (v := .bool true) rfl (by kernel_rfl) (by kernel_rfl) (by kernel_rfl) (fun _ _ _ h => h) (Or.inl ⟨by rfl, ?_⟩) (by assumption) ?_
            · intro w hSw; (try dsimp only at hSw); go_simp
            simp only [Act.put, List.setIfInBounds_toArray, List.set_cons_zero, List.set_cons_succ]
            refine wpAnyH_take (i := 4) (oi := ⟨some 51, _, _, _, _, _⟩) (v := .pointer (some ⟨P, 1, none⟩)) rfl (by kernel_rfl) (by kernel_rfl) (by kernel_rfl) (fun _ _ _ h => h) (Or.inl ⟨by rfl, ?_⟩) (by assumption) ?_
            · intro w hSw; (try dsimp only at hSw); go_simp
            simp only [Act.put, List.setIfInBounds_toArray, List.set_cons_zero, List.set_cons_succ]
            refine wpAnyH_take (i := 5) (oi := ⟨some 52, _, _, _, _, _⟩) (v := .int .i64 a.i) rfl (by kernel_rfl) (by kernel_rfl) (by kernel_rfl) (fun _ _ _ h => h) (Or.inl ⟨by rfl, ?_⟩) (by assumption) ?_
            · intro w hSw; (try dsimp only at hSw); subst hSw; have d1 := D1.out; go_simp
            simp only [Act.put, List.setIfInBounds_toArray, List.set_cons_zero, List.set_cons_succ]
            refine wpAnyH_take (i := 6) (oi := ⟨some 53, _, _, _, _, _⟩) (v := .pointer (some ⟨r, 0, none⟩)) rfl (by kernel_rfl) (by kernel_rfl) (by kernel_rfl) (fun _ _ _ h => h) (Or.inl ⟨by rfl, ?_⟩) (by assumption) ?_
            · intro w hSw; (try dsimp only at hSw); go_simp
            simp only [Act.put, List.setIfInBounds_toArray, List.set_cons_zero, List.set_cons_succ]
            refine wpAnyH_ready (rs := [7]) (by kernel_rfl) (by simp) ?_
            refine (AllReadyH.cons (o := ⟨some 54, _, _, _, _, _⟩) rfl (fun K hK => ?_) AllReadyH.nil)
            go_simp
            refine (SEC.out).mono ?_
            rintro e w2 ⟨rfl, rfl⟩
            refine hK.out _ _ rfl (fun hHeld => ?_)
            clear hK K
            refine wpAnyH_take (i := 8) (oi := ⟨some 55, _, _, _, _, _⟩) (v := .bool (decide (a.i < (M1.lasts.length : Int)))) rfl (by kernel_rfl) (by kernel_rfl) (by kernel_rfl) (fun _ _ _ h => h) (Or.inl ⟨by rfl, ?_⟩) (by assumption) ?_
            · intro w hSw; (try dsimp only at hSw); go_simp
            simp only [Act.put, List.setIfInBounds_toArray, List.set_cons_zero, List.set_cons_succ]
            refine wpAnyH_take (i := 9) (oi := ⟨some 56, _, _, _, _, _⟩) (v := .bool (decide (a.i < (M1.lasts.length : Int)))) rfl (by kernel_rfl) (by kernel_rfl) (by kernel_rfl) (fun _ _ _ h => h) (Or.inl ⟨by rfl, ?_⟩) (by assumption) ?_
            · intro w hSw; (try dsimp only at hSw); go_simp
            simp only [Act.put, List.setIfInBounds_toArray, List.set_cons_zero, List.set_cons_succ]
            refine wpAnyH_take (i := 10) (oi := ⟨some 13, _, _, _, _, _⟩) (v := .bool (decide (a.i < (M1.lasts.length : Int)))) rfl (by kernel_rfl) (by kernel_rfl) (by kernel_rfl) (fun _ _ _ h => h) (Or.inl ⟨by rfl, ?_⟩) (by assumption) ?_
            · intro w hSw; (try dsimp only at hSw); go_simp
            simp only [Act.put, List.setIfInBounds_toArray, List.set_cons_zero, List.set_cons_succ]
            refine wpAnyH_done (by kernel_rfl) ?_ _
            go_wp2_with fail
            go_meet
            exact ⟨by simp [Dk.there, hi0], rfl⟩
          · refine wp_region_held_drew (S := (fun w' => w' = w1.drew)) (by kernel_rfl) rfl (fun hHeld => ?_)
            refine wpAnyH_take (i := 0) (oi := ⟨some 47, _, _, _, _, _⟩) (v := .pointer (some ⟨P, 1, none⟩)) rfl (by kernel_rfl) (by kernel_rfl) (by kernel_rfl) (fun _ _ _ h => h) (Or.inl ⟨by rfl, ?_⟩) (by assumption) ?_
            · intro w hSw; (try dsimp only at hSw); go_simp
            simp only [Act.put, List.setIfInBounds_toArray, List.set_cons_zero, List.set_cons_succ]
            refine wpAnyH_take (i := 1) (oi := ⟨some 48, _, _, _, _, _⟩) (v := .int .i64 a.i) rfl (by kernel_rfl) (by kernel_rfl) (by kernel_rfl) (fun _ _ _ h => h) (Or.inl ⟨by rfl, ?_⟩) (by assumption) ?_
            · intro w hSw; (try dsimp only at hSw); subst hSw; have d1 := D1.out; go_simp
            simp only [Act.put, List.setIfInBounds_toArray, List.set_cons_zero, List.set_cons_succ]
            refine wpAnyH_take (i := 2) (oi := ⟨some 49, _, _, _, _, _⟩) (v := .bool false) rfl (by kernel_rfl) (by kernel_rfl) (by kernel_rfl) (fun _ _ _ h => h) (Or.inl ⟨by rfl, ?_⟩) (by assumption) ?_
            · intro w hSw; (try dsimp only at hSw); go_simp
            simp only [Act.put, List.setIfInBounds_toArray, List.set_cons_zero, List.set_cons_succ]
            refine wpAnyH_take (i := 3) (oi := ⟨some 50, _, _, _, _, _⟩) (v := .bool false) rfl (by kernel_rfl) (by kernel_rfl) (by kernel_rfl) (fun _ _ _ h => h) (Or.inl ⟨by rfl, ?_⟩) (by assumption) ?_
            · intro w hSw; (try dsimp only at hSw); go_simp
            simp only [Act.put, List.setIfInBounds_toArray, List.set_cons_zero, List.set_cons_succ]
            refine wpAnyH_take (i := 4) (oi := ⟨some 51, _, _, _, _, _⟩) (v := undef) rfl (by kernel_rfl) (by kernel_rfl) (by kernel_rfl) (fun _ _ _ h => h) (Or.inr ⟨by rfl, rfl⟩) (by assumption) ?_
            simp only [Act.put, List.setIfInBounds_toArray, List.set_cons_zero, List.set_cons_succ]
            refine wpAnyH_take (i := 5) (oi := ⟨some 52, _, _, _, _, _⟩) (v := undef) rfl (by kernel_rfl) (by kernel_rfl) (by kernel_rfl) (fun _ _ _ h => h) (Or.inr ⟨by rfl, rfl⟩) (by assumption) ?_
            simp only [Act.put, List.setIfInBounds_toArray, List.set_cons_zero, List.set_cons_succ]
            refine wpAnyH_take (i := 6) (oi := ⟨some 53, _, _, _, _, _⟩) (v := undef) rfl (by kernel_rfl) (by kernel_rfl) (by kernel_rfl) (fun _ _ _ h => h) (Or.inr ⟨by rfl, rfl⟩) (by assumption) ?_
            simp only [Act.put, List.setIfInBounds_toArray, List.set_cons_zero, List.set_cons_succ]
            refine wpAnyH_take (i := 7) (oi := ⟨some 54, _, _, _, _, _⟩) (v := undef) rfl (by kernel_rfl) (by kernel_rfl) (by kernel_rfl) (fun _ _ _ h => h) (Or.inr ⟨by rfl, rfl⟩) (by assumption) ?_
            simp only [Act.put, List.setIfInBounds_toArray, List.set_cons_zero, List.set_cons_succ]
            refine wpAnyH_take (i := 8) (oi := ⟨some 55, _, _, _, _, _⟩) (v := undef) rfl (by kernel_rfl) (by kernel_rfl) (by kernel_rfl) (fun _ _ _ h => h) (Or.inr ⟨by rfl, rfl⟩) (by assumption) ?_
            simp only [Act.put, List.setIfInBounds_toArray, List.set_cons_zero, List.set_cons_succ]
            refine wpAnyH_take (i := 9) (oi := ⟨some 56, _, _, _, _, _⟩) (v := .bool false) rfl (by kernel_rfl) (by kernel_rfl) (by kernel_rfl) (fun _ _ _ h => h) (Or.inl ⟨by rfl, ?_⟩) (by assumption) ?_
            · intro w hSw; (try dsimp only at hSw); go_simp
            simp only [Act.put, List.setIfInBounds_toArray, List.set_cons_zero, List.set_cons_succ]
            refine wpAnyH_take (i := 10) (oi := ⟨some 13, _, _, _, _, _⟩) (v := .bool false) rfl (by kernel_rfl) (by kernel_rfl) (by kernel_rfl) (fun _ _ _ h => h) (Or.inl ⟨by rfl, ?_⟩) (by assumption) ?_
            · intro w hSw; (try dsimp only at hSw); go_simp
            simp only [Act.put, List.setIfInBounds_toArray, List.set_cons_zero, List.set_cons_succ]
            refine wpAnyH_done (by kernel_rfl) ?_ _
            go_wp2_with fail
            go_meet
            exact ⟨by simp [Dk.there]; omega, rfl⟩
        obtain ⟨rfl, hw2⟩ := hcut
        have G2 : wc.heap[P]? = some (.cells cs.toArray 50 (0, 0)) := by rw [← hw2]; exact HGG.out
        have O2 : Hid (Dk.Own W.heap.size W wc r fp1 M1) := by rw [← hw2]; exact O1.out.low ((Below.refl w1.heap.size w1).drew)
        clear O1 HGG hw2
        generalize wc = w2 at *
        have d0 := Sm.cells_of G2 0 _ HC0.out
        have d1 := Sm.cells_of G2 1 _ HC1.out
        have HG2 := Lib.hid G2
        have hcl2 : (Try.prog.info? 50).map (·.size) = some cs.toArray.size := by rw [List.size_toArray]; exact HCL.out
        have HCL2 := Lib.hid hcl2
        have hwl : left ≠ 0 → IntKind.i64.wrap ((left : Int) - 1) = ((left - 1 : Nat) : Int) := by intro h; simp [IntKind.wrap, IntKind.bits, IntKind.signed]; omega
        have HWLF := Lib.hid hwl
        clear G2 hcl2 hwl
        have READ : Hid ((Dk.readOf M1 a.i).2 = (if off then 14 else if Dk.there M1 a.i then 0 else 1)) := Dk.read_burns BU.out a.i
        have WB := Lib.hid (Dk.write_burns BU.out a.i (Dk.data a))
        have SB := Lib.hid (Dk.sync_burns BU.out)
        have HW1 : Hid (Dk.waits (Dk.write M1 a.i (Dk.data a)).1 ≤ k + 1) := by show _ ≤ _; have := Dk.waits_write M1 a.i (Dk.data a); have := HWT.out; omega
        have HW2 : Hid (Dk.waits (Dk.sync M1).1 ≤ k + 1) := by show _ ≤ _; have := Dk.waits_sync M1; have := HWT.out; omega
        by_cases e0 : a.d = 0
        · rw [e0] at d0
          go_upto_region 21 with (fail)
          have D1 := Lib.hid d1
          clear d0 d1
          refine wp_region_held_drew (S := (fun w' => w'.heap[P]? = some (.cells cs.toArray 50 (0, 0)))) (by kernel_rfl) (by exact HG2.out) (fun hHeld => ?_)
          refine wpAnyH_take (i := 0) (oi := ⟨some 61, _, _, _, _, _⟩) (v := .pointer (some ⟨r, 0, none⟩)) rfl (by kernel_rfl) (by kernel_rfl) (by kernel_rfl) (fun _ _ _ h => h) (Or.inl ⟨by rfl, ?_⟩) (by assumption) ?_
          · intro w hSw; (try dsimp only at hSw); go_simp
          simp only [Act.put, List.setIfInBounds_toArray, List.set_cons_zero, List.set_cons_succ]
          refine wpAnyH_take (i := 1) (oi := ⟨some 62, _, _, _, _, _⟩) (v := .pointer (some ⟨P, 1, none⟩)) rfl (by kernel_rfl) (by kernel_rfl) (by kernel_rfl) (fun _ _ _ h => h) (Or.inl ⟨by rfl, ?_⟩) (by assumption) ?_
          · intro w hSw; (try dsimp only at hSw); go_simp
          simp only [Act.put, List.setIfInBounds_toArray, List.set_cons_zero, List.set_cons_succ]
          refine wpAnyH_take (i := 2) (oi := ⟨some 63, _, _, _, _, _⟩) (v := .int .i64 a.i) rfl (by kernel_rfl) (by kernel_rfl) (by kernel_rfl) (fun _ _ _ h => h) (Or.inl ⟨by rfl, ?_⟩) (by assumption) ?_
          · intro w hSw; (try dsimp only at hSw); have s1 := Sm.cells_of hSw 1 _ HC1.out; go_simp
          simp only [Act.put, List.setIfInBounds_toArray, List.set_cons_zero, List.set_cons_succ]
          refine wpAnyH_take (i := 3) (oi := ⟨some 64, _, _, _, _, _⟩) (v := .agg cs.toArray) rfl (by kernel_rfl) (by kernel_rfl) (by kernel_rfl) (fun _ _ _ h => h) (yieldsIf_load_mid (by rfl) _ _ rfl _ _ rfl cs _ (fun w hS => Sm.range_row hS) Try.underlying50 rfl HCL.out) (by assumption) ?_
          simp only [Act.put, List.setIfInBounds_toArray, List.set_cons_zero, List.set_cons_succ]
          refine wpAnyH_ready (rs := [4]) (by kernel_rfl) (by simp) ?_
          refine (AllReadyH.cons (o := ⟨some 65, _, _, _, _, _⟩) rfl (fun K hK => ?_) AllReadyH.nil)
          go_simp
          refine (DA.out w2.drew).mono ?_
          rintro e w3 ⟨rfl, hb3⟩
          have o3 := O2.out.low (w' := w3) ((Below.refl w2.heap.size w2).drew.trans hb3)
          have hG3 : w3.heap[P]? = some (.cells cs.toArray 50 (0, 0)) := (hb3.block P (Sm.lt_of HG2.out)).trans HG2.out
          refine hK.out _ _ hG3 (fun hHeld => ?_)
          clear hK K
          refine wpAnyH_ready (rs := [5]) (by kernel_rfl) (by simp) ?_
          refine (AllReadyH.cons (o := ⟨some 66, _, _, _, _, _⟩) rfl (fun K hK => ?_) AllReadyH.nil)
          go_simp
          refine (Dk.write_in o3 HWK.out a.i sd).mono ?_
          rintro e w4 ⟨fp4, rfl, st4⟩
          rw [HSD.out] at st4
          rw [HSD.out]
          have hG4 : w4.heap[P]? = some (.cells cs.toArray 50 (0, 0)) := (st4.turned.block P (Sm.lt_of hG3) HNF.out).trans hG3
          have O4 := Lib.hid st4.own
          have HG4 := Lib.hid hG4
          refine hK.out _ _ hG4 (fun hHeld => ?_)
          clear hK K o3 hG3 hG4 st4 hHeld
          refine wpAnyH_take (i := 6) (oi := ⟨some 14, _, _, _, _, _⟩) (v := .int .i64 (Dk.write M1 a.i (Dk.data a)).2) rfl (by kernel_rfl) (by kernel_rfl) (by kernel_rfl) (fun _ _ _ h => h) (Or.inl ⟨by rfl, ?_⟩) (by assumption) ?_
          · intro w hSw; (try dsimp only at hSw); go_simp
          simp only [Act.put, List.setIfInBounds_toArray, List.set_cons_zero, List.set_cons_succ]
          refine wpAnyH_done (by kernel_rfl) ?_ _
          have wb := WB.out
          cases hth : Dk.there M1 a.i
          · rw [hth] at wb
            cases off
            · by_cases h0 : left = 0
              · simp [Dk.nOff, Dk.nLeft, h0] at wb
                obtain ⟨wb1, wb2⟩ := wb
                rw [wb2]
                subst h0
                have o5 := O4.out
                go_wp2_with fail
                refine (Dk.down_in o5).mono ?_
                rintro e w6 ⟨rfl, rfl⟩
                rw [(wb1).1]
                go_wp2
                go_roundw
                case rel => exact ⟨k + 1, 0, false, fp4, _, rfl, rfl, rfl, hlt, by omega, o5, wb1, HW1.out⟩
                case measure => simp [intOf]; omega
              · simp [Dk.nOff, Dk.nLeft, h0] at wb
                obtain ⟨wb1, wb2⟩ := wb
                rw [wb2]
                have hl0 : ¬ (left : Int) = 0 := by omega
                have hwl := HWLF.out h0
                have o5 := O4.out
                go_wp2_with fail
                refine (Dk.down_in o5).mono ?_
                rintro e w6 ⟨rfl, rfl⟩
                rw [(wb1).1]
                go_wp2
                go_roundw
                case rel => exact ⟨k + 1, left, false, fp4, _, rfl, rfl, rfl, hlt, by omega, o5, wb1, HW1.out⟩
                case measure => simp [intOf]; omega
            · simp [Dk.nOff, Dk.nLeft] at wb
              obtain ⟨wb1, wb2⟩ := wb
              rw [wb2]
              have o5 := O4.out
              go_wp2_with fail
              refine (Dk.down_in o5).mono ?_
              rintro e w6 ⟨rfl, rfl⟩
              rw [(wb1).1]
              go_wp2
              go_roundw
              case rel => exact ⟨k + 1, left, true, fp4, _, rfl, rfl, rfl, hlt, by omega, o5, wb1, HW1.out⟩
              case measure => simp [intOf]; omega
          · rw [hth] at wb
            by_cases h64 : (Dk.data a).length = 64
            · skip
              cases off
              · by_cases h0 : left = 0
                · simp [Dk.nOff, Dk.nLeft, h64, h0] at wb
                  obtain ⟨wb1, wb2⟩ := wb
                  rw [wb2]
                  subst h0
                  have hszI : (sd.size : Int) = 64 := by have := HSZ.out; omega
                  go_wp2_with ((with_reducible refine Sm.wpList_load_row_g 50 (.tmp 12) rfl P rfl 50 cs.toArray (0, 0) _ (by exact HG4.out) Try.underlying50 rfl HCL2.out ?_ rfl))
                  refine (DA.out _).mono ?_
                  rintro e w5 ⟨rfl, k5⟩
                  have o5 := O4.out.low k5
                  clear k5
                  go_wp2_with fail
                  refine (Dk.down_in o5).mono ?_
                  rintro e w6 ⟨rfl, rfl⟩
                  rw [(wb1).1]
                  go_wp2
                  go_roundw
                  case rel => exact ⟨k + 1, 0, true, fp4, _, rfl, rfl, rfl, hlt, by omega, o5, wb1, HW1.out⟩
                  case measure => simp [intOf]; omega
                · simp [Dk.nOff, Dk.nLeft, h64, h0] at wb
                  obtain ⟨wb1, wb2⟩ := wb
                  rw [wb2]
                  have hl0 : ¬ (left : Int) = 0 := by omega
                  have hwl := HWLF.out h0
                  have hszI : (sd.size : Int) = 64 := by have := HSZ.out; omega
                  go_wp2_with ((with_reducible refine Sm.wpList_load_row_g 50 (.tmp 12) rfl P rfl 50 cs.toArray (0, 0) _ (by exact HG4.out) Try.underlying50 rfl HCL2.out ?_ rfl))
                  refine (DA.out _).mono ?_
                  rintro e w5 ⟨rfl, k5⟩
                  have o5 := O4.out.low k5
                  clear k5
                  go_wp2_with fail
                  refine (Dk.down_in o5).mono ?_
                  rintro e w6 ⟨rfl, rfl⟩
                  rw [(wb1).1]
                  go_wp2
                  go_roundw
                  case rel => exact ⟨k + 1, (left - 1), false, fp4, _, rfl, rfl, rfl, hlt, by omega, o5, wb1, HW1.out⟩
                  case measure => simp [intOf]; omega
              · simp [Dk.nOff, Dk.nLeft, h64] at wb
                obtain ⟨wb1, wb2⟩ := wb
                rw [wb2]
                have hszI : (sd.size : Int) = 64 := by have := HSZ.out; omega
                go_wp2_with ((with_reducible refine Sm.wpList_load_row_g 50 (.tmp 12) rfl P rfl 50 cs.toArray (0, 0) _ (by exact HG4.out) Try.underlying50 rfl HCL2.out ?_ rfl))
                refine (DA.out _).mono ?_
                rintro e w5 ⟨rfl, k5⟩
                have o5 := O4.out.low k5
                clear k5
                go_wp2_with fail
                refine (Dk.down_in o5).mono ?_
                rintro e w6 ⟨rfl, rfl⟩
                rw [(wb1).1]
                go_wp2
                go_roundw
                case rel => exact ⟨k + 1, left, true, fp4, _, rfl, rfl, rfl, hlt, by omega, o5, wb1, HW1.out⟩
                case measure => simp [intOf]; omega
            · skip
              cases off
              · by_cases h0 : left = 0
                · simp [Dk.nOff, Dk.nLeft, h64, h0] at wb
                  obtain ⟨wb1, wb2⟩ := wb
                  rw [wb2]
                  subst h0
                  have hszI : ¬ (sd.size : Int) = 64 := by have := HSZ.out; omega
                  have hszB : ((sd.size : Int) == 64) = false := by simpa using hszI
                  go_wp2_with ((with_reducible refine Sm.wpList_load_row_g 50 (.tmp 12) rfl P rfl 50 cs.toArray (0, 0) _ (by exact HG4.out) Try.underlying50 rfl HCL2.out ?_ rfl))
                  refine (DA.out _).mono ?_
                  rintro e w5 ⟨rfl, k5⟩
                  have o5 := O4.out.low k5
                  clear k5
                  go_wp2_with fail
                  refine (Dk.down_in o5).mono ?_
                  rintro e w6 ⟨rfl, rfl⟩
                  rw [(wb1).1]
                  go_wp2
                  go_roundw
                  case rel => exact ⟨k + 1, 0, false, fp4, _, rfl, rfl, rfl, hlt, by omega, o5, wb1, HW1.out⟩
                  case measure => simp [intOf]; omega
                · simp [Dk.nOff, Dk.nLeft, h64, h0] at wb
                  obtain ⟨wb1, wb2⟩ := wb
                  rw [wb2]
                  have hl0 : ¬ (left : Int) = 0 := by omega
                  have hwl := HWLF.out h0
                  have hszI : ¬ (sd.size : Int) = 64 := by have := HSZ.out; omega
                  have hszB : ((sd.size : Int) == 64) = false := by simpa using hszI
                  go_wp2_with ((with_reducible refine Sm.wpList_load_row_g 50 (.tmp 12) rfl P rfl 50 cs.toArray (0, 0) _ (by exact HG4.out) Try.underlying50 rfl HCL2.out ?_ rfl))
                  refine (DA.out _).mono ?_
                  rintro e w5 ⟨rfl, k5⟩
                  have o5 := O4.out.low k5
                  clear k5
                  go_wp2_with fail
                  refine (Dk.down_in o5).mono ?_
                  rintro e w6 ⟨rfl, rfl⟩
                  rw [(wb1).1]
                  go_wp2
                  go_roundw
                  case rel => exact ⟨k + 1, left, false, fp4, _, rfl, rfl, rfl, hlt, by omega, o5, wb1, HW1.out⟩
                  case measure => simp [intOf]; omega
              · simp [Dk.nOff, Dk.nLeft, h64] at wb
                obtain ⟨wb1, wb2⟩ := wb
                rw [wb2]
                have hszI : ¬ (sd.size : Int) = 64 := by have := HSZ.out; omega
                have hszB : ((sd.size : Int) == 64) = false := by simpa using hszI
                go_wp2_with ((with_reducible refine Sm.wpList_load_row_g 50 (.tmp 12) rfl P rfl 50 cs.toArray (0, 0) _ (by exact HG4.out) Try.underlying50 rfl HCL2.out ?_ rfl))
                refine (DA.out _).mono ?_
                rintro e w5 ⟨rfl, k5⟩
                have o5 := O4.out.low k5
                clear k5
                go_wp2_with fail
                refine (Dk.down_in o5).mono ?_
                rintro e w6 ⟨rfl, rfl⟩
                rw [(wb1).1]
                go_wp2
                go_roundw
                case rel => exact ⟨k + 1, left, true, fp4, _, rfl, rfl, rfl, hlt, by omega, o5, wb1, HW1.out⟩
                case measure => simp [intOf]; omega
        · by_cases e1 : a.d = 1
          · rw [e1] at d0
            go_wp2_with fail
            refine (Dk.sync_in O2.out).mono ?_
            rintro e w4 ⟨fp4, rfl, st4⟩
            have o5 := st4.own
            have sb := SB.out
            clear st4 d0 d1
            cases off
            · by_cases h0 : left = 0
              · simp [Dk.nOff, Dk.nLeft, h0] at sb
                obtain ⟨sb1, sb2⟩ := sb
                rw [sb2]
                subst h0
                go_wp2_with fail
                refine (Dk.down_in o5).mono ?_
                rintro e w6 ⟨rfl, rfl⟩
                rw [(sb1).1]
                go_wp2
                go_roundw
                case rel => exact ⟨k + 1, 0, true, fp4, _, rfl, rfl, rfl, hlt, by omega, o5, sb1, HW2.out⟩
                case measure => simp [intOf]; omega
              · simp [Dk.nOff, Dk.nLeft, h0] at sb
                obtain ⟨sb1, sb2⟩ := sb
                rw [sb2]
                have hl0 : ¬ (left : Int) = 0 := by omega
                have hwl := HWLF.out h0
                go_wp2_with fail
                refine (Dk.down_in o5).mono ?_
                rintro e w6 ⟨rfl, rfl⟩
                rw [(sb1).1]
                go_wp2
                go_roundw
                case rel => exact ⟨k + 1, (left - 1), false, fp4, _, rfl, rfl, rfl, hlt, by omega, o5, sb1, HW2.out⟩
                case measure => simp [intOf]; omega
            · simp [Dk.nOff, Dk.nLeft] at sb
              obtain ⟨sb1, sb2⟩ := sb
              rw [sb2]
              go_wp2_with fail
              refine (Dk.down_in o5).mono ?_
              rintro e w6 ⟨rfl, rfl⟩
              rw [(sb1).1]
              go_wp2
              go_roundw
              case rel => exact ⟨k + 1, left, true, fp4, _, rfl, rfl, rfl, hlt, by omega, o5, sb1, HW2.out⟩
              case measure => simp [intOf]; omega
          · by_cases e5 : a.d = 5
            · rw [e5] at d0
              go_wp2_with fail
              refine (Dk.read_in O2.out a.i).mono ?_
              rintro e w4 ⟨rfl, o5, -⟩
              have rd := READ.out
              have bu := BU.out
              clear d0 d1
              cases hth : Dk.there M1 a.i
              · cases off
                · simp [hth] at rd
                  rw [rd]
                  go_wp2_with fail
                  refine (Dk.down_in o5).mono ?_
                  rintro e w6 ⟨rfl, rfl⟩
                  rw [(bu).1]
                  go_wp2
                  go_roundw
                  case rel => exact ⟨k + 1, left, false, fp1, M1, rfl, rfl, rfl, hlt, by omega, o5, bu, Nat.le_succ_of_le HWT.out⟩
                  case measure => simp [intOf]; omega
                · simp at rd
                  rw [rd]
                  go_wp2_with fail
                  refine (Dk.down_in o5).mono ?_
                  rintro e w6 ⟨rfl, rfl⟩
                  rw [(bu).1]
                  go_wp2
                  go_roundw
                  case rel => exact ⟨k + 1, left, true, fp1, M1, rfl, rfl, rfl, hlt, by omega, o5, bu, Nat.le_succ_of_le HWT.out⟩
                  case measure => simp [intOf]; omega
              · cases off
                · simp [hth] at rd
                  rw [rd]
                  go_wp2_with fail
                  refine (Dk.down_in o5).mono ?_
                  rintro e w6 ⟨rfl, rfl⟩
                  rw [(bu).1]
                  go_wp2
                  go_roundw
                  case rel => exact ⟨k + 1, left, false, fp1, M1, rfl, rfl, rfl, hlt, by omega, o5, bu, Nat.le_succ_of_le HWT.out⟩
                  case measure => simp [intOf]; omega
                · simp at rd
                  rw [rd]
                  go_wp2_with fail
                  refine (Dk.down_in o5).mono ?_
                  rintro e w6 ⟨rfl, rfl⟩
                  rw [(bu).1]
                  go_wp2
                  go_roundw
                  case rel => exact ⟨k + 1, left, true, fp1, M1, rfl, rfl, rfl, hlt, by omega, o5, bu, Nat.le_succ_of_le HWT.out⟩
                  case measure => simp [intOf]; omega
            · clear d1
              go_wp2
              go_roundw
              case rel => exact ⟨k + 1, left, off, fp1, M1, rfl, rfl, rfl, hlt, hleft, O2.out, BU.out, Nat.le_succ_of_le HWT.out⟩
              case measure => simp [intOf]; omega
      · have hlt1 : ¬ (k : Int) < l.length := by omega
        go_wp2
        go_ret
        exact ⟨rfl, hbl⟩
end Go.Proofs.Ytleknlkbaeognaa
