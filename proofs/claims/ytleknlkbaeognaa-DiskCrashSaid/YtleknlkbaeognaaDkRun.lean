/-
  What a row of acts does to a disk.
-/
import Derived.Test.YtleknlkbaeognaaDkActs
namespace Go.Proofs.Ytleknlkbaeognaa
open Go.RowKit
namespace Dk
def doAct (M : Md) (a : Ac) : Md :=
  if a.d = 0 then (write M a.i (data a)).1 else if a.d = 1 then (sync M).1 else if a.d = 2 then { M with fuse := a.n } else if a.d = 3 then crash M a.keep else if a.d = 4 then (spoil M a.i a.n a.x.data.toList).1 else M
def runs (M : Md) (l : List Ac) : Md := l.foldl doAct M
theorem runs_take (M : Md) {l : List Ac} {k : Nat} (h : k < l.length) : runs M (l.take (k + 1)) = doAct (runs M (l.take k)) l[k] := by
  rw [List.take_succ_eq_append_getElem h, runs, List.foldl_append]
  rfl
theorem waits_doAct (M : Md) (a : Ac) : waits (doAct M a) ≤ waits M + 1 := by
  unfold doAct
  split
  · exact waits_write _ _ _
  · split
    · exact Nat.le_trans (waits_sync M) (Nat.le_succ _)
    · split
      · exact Nat.le_succ (waits M)
      · split
        · rw [waits_crash]; exact Nat.zero_le _
        · split
          · rw [waits_spoil]; exact Nat.le_succ _
          · exact Nat.le_succ _
theorem waits_runs (M : Md) (l : List Ac) : waits (runs M l) ≤ waits M + l.length := by
  induction l generalizing M with
  | nil => exact Nat.le_refl _
  | cons a l ih =>
    have h1 := ih (doAct M a)
    have h2 := waits_doAct M a
    rw [List.length_cons]
    show waits (runs (doAct M a) l) ≤ _
    omega
theorem doAct_0 {M : Md} {a : Ac} (h : a.d = 0) : doAct M a = (write M a.i (data a)).1 := by simp [doAct, h]
theorem doAct_1 {M : Md} {a : Ac} (h : a.d = 1) : doAct M a = (sync M).1 := by simp [doAct, h]
theorem doAct_2 {M : Md} {a : Ac} (h : a.d = 2) : doAct M a = { M with fuse := a.n } := by simp [doAct, h]
theorem doAct_3 {M : Md} {a : Ac} (h : a.d = 3) : doAct M a = crash M a.keep := by simp [doAct, h]
theorem doAct_4 {M : Md} {a : Ac} (h : a.d = 4) : doAct M a = (spoil M a.i a.n a.x.data.toList).1 := by simp [doAct, h]
theorem doAct_else {M : Md} {a : Ac} (h : a.d ≠ 0 ∧ a.d ≠ 1 ∧ a.d ≠ 2 ∧ a.d ≠ 3 ∧ a.d ≠ 4) : doAct M a = M := by simp [doAct, h]
theorem len_doAct (M : Md) (a : Ac) : (doAct M a).lasts.length = M.lasts.length := by
  unfold doAct
  split
  · rw [lasts_write]
  · split
    · exact len_sync M
    · split
      · rfl
      · split
        · exact len_crash _ _
        · split
          · exact len_spoil _ _ _ _
          · rfl
theorem len_runs (M : Md) (l : List Ac) : (runs M l).lasts.length = M.lasts.length := by
  induction l generalizing M with
  | nil => rfl
  | cons a l ih => exact (ih _).trans (len_doAct _ _)
theorem sized_data {a : Ac} : (⟨(data a).toArray⟩ : ByteArray).data.toList = data a := by simp
end Dk
set_option maxRecDepth 100000 in
set_option maxHeartbeats 4000000 in
theorem run7_some {B : Nat} {w0 w : World} {r : Nat} {fp : Nat → Prop} {M : Dk.Md} (h : Dk.Own B w0 w r fp M) (hB : B = w0.heap.size) (b off c : Nat) (l : List Dk.Ac) (hl : l.length ≤ 1099511627776) (hb : b < w0.heap.size) (hit : Dk.actsAt w0 b off l) (hs : ∀ a ∈ l, a.Ok w0) (hw : Dk.waits M + l.length ≤ 1099511627776) :
    Calls Try.prog 30 #[.pointer (some ⟨r, 0, none⟩), .slice (some ⟨b, off, none⟩) l.length c] w fun e w' => e = .returned (.tuple #[]) ∧ ∃ fp', Dk.Step B w0 w w' r fp fp' (Dk.runs M l) := by
  have H := Lib.hid h
  have HIT := Lib.hid hit
  have HS := Lib.hid hs
  have HB := Lib.hid hB
  have HBL := Lib.hid hb
  have HWL := Lib.hid hw
  clear h hit hs hB hb hw
  go_enter Try.func30, Try.ntmps30
  go_wp2
  go_loopw [4, 5] (fun i _ wr => ∃ (k : Nat) (fp' : Nat → Prop), i = .int .i64 k ∧ k ≤ l.length ∧ Dk.Step B w0 w wr r fp fp' (Dk.runs M (l.take k))) (fun i _ _ => l.length - (intOf i).toNat)
  case atStart => exact ⟨0, fp, rfl, Nat.zero_le _, by rw [List.take_zero]; exact Dk.Step.refl H.out⟩
  case round =>
    obtain ⟨k, fp1, rfl, hk, hst⟩ := hrel
    have HST := Lib.hid hst
    have hbl : Below B w0 wr := hst.own.below
    clear hst
    by_cases hlt : k < l.length
    · have hlt1 : (k : Int) < l.length := by omega
      obtain ⟨c0, c1, c2, c3, c4, c5, c6⟩ := (HIT.out k hlt).below hbl (by rw [HB.out]; exact HBL.out)
      obtain ⟨a, ha⟩ : ∃ a, a = l[k] := ⟨_, rfl⟩
      have hok := HS.out _ (List.getElem_mem hlt)
      rw [← ha] at c0 c1 c2 c3 c4 c5 c6 hok
      have HA := Lib.hid ha
      have HOK := Lib.hid hok
      have hwt := Dk.waits_runs M (l.take k)
      have htk : (l.take k).length = k := by rw [List.length_take]; omega
      have HWK : Hid (Dk.waits (Dk.runs M (l.take k)) ≤ 1099511627776) := by show _ ≤ _; have := HWL.out; omega
      have NEXT : Hid (Dk.runs M (l.take (k + 1)) = Dk.doAct (Dk.runs M (l.take k)) a) := by show _ = _; rw [HA.out]; exact Dk.runs_take M hlt
      have HNF : Hid (¬ fp1 wr.heap.size) := by show ¬ _; intro e; have := HST.out.own.lt _ e; omega
      have HST1 := Lib.hid (HST.out.low ((Below.refl wr.heap.size wr).alloc (Nat.le_refl _) (.cells a.cells.toArray 50)))
      have hg1 := heap_alloc_new wr (.cells a.cells.toArray 50)
      have hsuc : IntKind.i64.wrap ((k : Int) + 1) = ((k + 1 : Nat) : Int) := by simp [IntKind.wrap, IntKind.bits, IntKind.signed]; omega
      obtain ⟨M1, hM1⟩ : ∃ M1, M1 = Dk.runs M (l.take k) := ⟨_, rfl⟩
      rw [← hM1] at HST1 HWK NEXT
      obtain ⟨kA, kc, hkv, -⟩ := hok.keep
      clear ha hok hwt htk hbl HST hM1
      unfold Dk.Ac.cells at *
      rw [hkv] at c6 hg1 HST1
      have HKV := Lib.hid hkv
      clear hkv
      go_upto_region 4 with (fail)
      clear c0 c1 c2 c3 c4 c5 c6
      obtain ⟨N, hN⟩ : ∃ N, N = wr.heap.size := ⟨_, rfl⟩
      rw [← hN] at hg1 ⊢
      have hdis : Hid (¬ fp1 N) := by
        show ¬ fp1 N
        rw [hN]
        exact HNF.out
      clear hN
      generalize wr.alloc (.cells #[.int .i64 a.d, .int .i64 a.i, .int .i64 a.n, .string a.b, .string a.x, .int .u8 a.y.toNat, .slice kA a.keep.length kc] 50) = w1 at *
      have HG1 := Lib.hid hg1
      have d0 := Sm.cells_of hg1 0 _ rfl
      have d1 := Sm.cells_of hg1 1 _ rfl
      have d2 := Sm.cells_of hg1 2 _ rfl
      have d4 := Sm.cells_of hg1 4 _ rfl
      have d6 := Sm.cells_of hg1 6 _ rfl
      clear hg1
      by_cases e0 : a.d = 0
      · rw [e0] at d0
        go_upto_region 6 with (fail)
        have DA : Hid (∀ wx : World, Calls Try.prog 28 #[.agg a.cells.toArray] wx fun e w' => e = .returned (.string ⟨(Dk.data a).toArray⟩) ∧ Below wx.heap.size wx w') := fun wx => data7_any wx a
        unfold Dk.Ac.cells at DA
        rw [HKV.out] at DA
        obtain ⟨cs, hcs⟩ : ∃ cs : List Value, cs = [.int .i64 a.d, .int .i64 a.i, .int .i64 a.n, .string a.b, .string a.x, .int .u8 a.y.toNat, .slice kA a.keep.length kc] := ⟨_, rfl⟩
        rw [← hcs] at DA
        have hG : w1.heap[N]? = some (.cells cs.toArray 50 (0, 0)) := by rw [hcs]; exact HG1.out
        have hcl : (Try.prog.info? 50).map (·.size) = some cs.length := by rw [hcs]; kernel_rfl
        have hc1 : cs.toArray[1]? = some (.int .i64 a.i) := by rw [hcs]; rfl
        have HCL := Lib.hid hcl
        have HC1 := Lib.hid hc1
        have HGG := Lib.hid hG
        obtain ⟨sd, hsd⟩ : ∃ s : ByteArray, s = ⟨(Dk.data a).toArray⟩ := ⟨_, rfl⟩
        have hsdd : sd.data.toList = Dk.data a := by rw [hsd]
        rw [← hsd] at DA
        have HSD := Lib.hid hsdd
        clear d0 d1 d2 d4 d6 hcs hG hcl hc1 hsd hsdd
        refine wp_region_held_drew (S := (fun w' => w'.heap[N]? = some (.cells cs.toArray 50 (0, 0)))) (by kernel_rfl) (by exact HGG.out) (fun hHeld => ?_)
        refine wpAnyH_take (i := 0) (oi := ⟨some 20, _, _, _, _, _⟩) (v := .pointer (some ⟨r, 0, none⟩)) rfl (by kernel_rfl) (by kernel_rfl) (by kernel_rfl) (fun _ _ _ h => h) (Or.inl ⟨by rfl, ?_⟩) (by assumption) ?_
        · intro w hSw; (try dsimp only at hSw); go_simp
        simp only [Act.put, List.setIfInBounds_toArray, List.set_cons_zero, List.set_cons_succ]
        refine wpAnyH_take (i := 1) (oi := ⟨some 21, _, _, _, _, _⟩) (v := .pointer (some ⟨N, 1, none⟩)) rfl (by kernel_rfl) (by kernel_rfl) (by kernel_rfl) (fun _ _ _ h => h) (Or.inl ⟨by rfl, ?_⟩) (by assumption) ?_
        · intro w hSw; (try dsimp only at hSw); go_simp
        simp only [Act.put, List.setIfInBounds_toArray, List.set_cons_zero, List.set_cons_succ]
        refine wpAnyH_take (i := 2) (oi := ⟨some 22, _, _, _, _, _⟩) (v := .int .i64 a.i) rfl (by kernel_rfl) (by kernel_rfl) (by kernel_rfl) (fun _ _ _ h => h) (Or.inl ⟨by rfl, ?_⟩) (by assumption) ?_
        · intro w hSw; (try dsimp only at hSw); have s1 := Sm.cells_of hSw 1 _ HC1.out; go_simp
        simp only [Act.put, List.setIfInBounds_toArray, List.set_cons_zero, List.set_cons_succ]
        refine wpAnyH_take (i := 3) (oi := ⟨some 23, _, _, _, _, _⟩) (v := .agg cs.toArray) rfl (by kernel_rfl) (by kernel_rfl) (by kernel_rfl) (fun _ _ _ h => h) (yieldsIf_load_mid (by rfl) _ _ rfl _ _ rfl cs _ (fun w hS => Sm.range_row hS) Try.underlying50 rfl HCL.out) (by assumption) ?_
        simp only [Act.put, List.setIfInBounds_toArray, List.set_cons_zero, List.set_cons_succ]
        refine wpAnyH_ready (rs := [4]) (by kernel_rfl) (by simp) ?_
        refine (AllReadyH.cons (o := ⟨some 24, _, _, _, _, _⟩) rfl (fun K hK => ?_) AllReadyH.nil)
        go_simp
        refine (DA.out w1.drew).mono ?_
        rintro e w2 ⟨rfl, hb2⟩
        have hst2 := HST1.out.low (w' := w2) ((Below.refl w1.heap.size w1).drew.trans hb2)
        have hG2 : w2.heap[N]? = some (.cells cs.toArray 50 (0, 0)) := (hb2.block N (Sm.lt_of HGG.out)).trans HGG.out
        refine hK.out _ _ hG2 (fun hHeld => ?_)
        clear hK K
        refine wpAnyH_ready (rs := [5]) (by kernel_rfl) (by simp) ?_
        refine (AllReadyH.cons (o := ⟨some 25, _, _, _, _, _⟩) rfl (fun K hK => ?_) AllReadyH.nil)
        go_simp
        refine (Dk.write_in hst2.own HWK.out a.i sd).mono ?_
        rintro e w3 ⟨fp3, rfl, hst3⟩
        rw [HSD.out] at hst3
        rw [HSD.out]
        have HST3 := Lib.hid (hst2.trans hst3)
        have hG3 : w3.heap[N]? = some (.cells cs.toArray 50 (0, 0)) := (hst3.turned.block N (Sm.lt_of hG2) hdis.out).trans hG2
        refine hK.out _ _ hG3 (fun hHeld => ?_)
        clear hK K hst2 hst3 hG2 hG3 hHeld
        refine wpAnyH_done (by kernel_rfl) ?_ _
        go_wp2
        go_roundw
        case rel => exact ⟨k + 1, fp3, rfl, hlt, by rw [NEXT.out, Dk.doAct_0 e0]; exact HST3.out⟩
        case measure => simp [intOf]; omega
      · by_cases e1 : a.d = 1
        · rw [e1] at d0
          go_wp2_with fail
          refine (Dk.sync_in HST1.out.own).mono ?_
          rintro e w2 ⟨fp2, rfl, hst2⟩
          have HST2 := Lib.hid (HST1.out.trans hst2)
          clear hst2 d0 d1 d2 d4 d6
          go_wp2
          go_roundw
          case rel => exact ⟨k + 1, fp2, rfl, hlt, by rw [NEXT.out, Dk.doAct_1 e1]; exact HST2.out⟩
          case measure => simp [intOf]; omega
        · by_cases e2 : a.d = 2
          · rw [e2] at d0
            go_wp2_with fail
            refine (Dk.fuse_in HST1.out.own a.n HOK.out.n).mono ?_
            rintro e w2 ⟨fp2, rfl, hst2⟩
            have HST2 := Lib.hid (HST1.out.trans hst2)
            clear hst2 d0 d1 d2 d4 d6
            go_wp2
            go_roundw
            case rel => exact ⟨k + 1, fp2, rfl, hlt, by rw [NEXT.out, Dk.doAct_2 e2]; exact HST2.out⟩
            case measure => simp [intOf]; omega
          · by_cases e3 : a.d = 3
            · rw [e3] at d0
              obtain ⟨hi3, ho3⟩ := HST1.out.own.off HOK.out.keep HB.out
              rw [HKV.out] at hi3 ho3
              have HI3 := Lib.hid hi3
              have HO3 := Lib.hid ho3
              clear hi3 ho3
              go_wp2_with fail
              refine (Dk.crash_in HST1.out.own HWK.out HI3.out HO3.out).mono ?_
              rintro e w2 ⟨fp2, rfl, hst2⟩
              have HST2 := Lib.hid (HST1.out.trans hst2)
              clear hst2 d0 d1 d2 d4 d6
              go_wp2
              go_roundw
              case rel => exact ⟨k + 1, fp2, rfl, hlt, by rw [NEXT.out, Dk.doAct_3 e3]; exact HST2.out⟩
              case measure => simp [intOf]; omega
            · by_cases e4 : a.d = 4
              · rw [e4] at d0
                go_wp2_with fail
                refine (Dk.spoil_in HST1.out.own a.i a.n a.x HOK.out.x).mono ?_
                rintro e w2 ⟨fp2, rfl, hst2⟩
                have HST2 := Lib.hid (HST1.out.trans hst2)
                clear hst2 d0 d1 d2 d4 d6
                go_wp2
                go_roundw
                case rel => exact ⟨k + 1, fp2, rfl, hlt, by rw [NEXT.out, Dk.doAct_4 e4]; exact HST2.out⟩
                case measure => simp [intOf]; omega
              · clear d1 d2 d4 d6
                go_wp2
                go_roundw
                case rel => exact ⟨k + 1, fp1, rfl, hlt, by rw [NEXT.out, Dk.doAct_else ⟨e0, e1, e2, e3, e4⟩]; exact HST1.out⟩
                case measure => simp [intOf]; omega
    · have hlt1 : ¬ (k : Int) < l.length := by omega
      have e : l.take k = l := List.take_of_length_le (by omega)
      rw [e] at HST
      go_wp2
      go_end0
      exact ⟨rfl, fp1, HST.out⟩
set_option maxRecDepth 100000 in
theorem run7_nil (w : World) (r : Nat) (A : Option Addr) (c : Nat) : Calls Try.prog 30 #[.pointer (some ⟨r, 0, none⟩), .slice A 0 c] w fun e w' => e = .returned (.tuple #[]) ∧ w = w' := by
  go_enter Try.func30, Try.ntmps30
  go_wp2
  refine wp_loop_rounds 1 ?_
  rw [rounds_succ]
  go_wp2
  go_end0
  exact ⟨rfl, rfl⟩
theorem run7_any {B : Nat} {w0 w : World} {r : Nat} {fp : Nat → Prop} {M : Dk.Md} (h : Dk.Own B w0 w r fp M) (hB : B = w0.heap.size) {A : Option Addr} {c : Nat} {l : List Dk.Ac} (hl : l.length ≤ 1099511627776) (hit : Dk.listAt w0 A l) (hs : ∀ a ∈ l, a.Ok w0) (hw : Dk.waits M + l.length ≤ 1099511627776) :
    Calls Try.prog 30 #[.pointer (some ⟨r, 0, none⟩), .slice A l.length c] w fun e w' => e = .returned (.tuple #[]) ∧ ∃ fp', Dk.Step B w0 w w' r fp fp' (Dk.runs M l) := by
  rcases hit with rfl | ⟨b, off, rfl, hb, hit⟩
  · refine (run7_nil w r A c).mono ?_
    rintro e w' ⟨rfl, rfl⟩
    exact ⟨rfl, fp, Dk.Step.refl h⟩
  · exact run7_some h hB b off c l hl hb hit hs hw
end Go.Proofs.Ytleknlkbaeognaa
