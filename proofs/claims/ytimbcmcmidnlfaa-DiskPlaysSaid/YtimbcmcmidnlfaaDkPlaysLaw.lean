/-
  DiskPlays: a disk tells what the document says.
-/
import Derived.Test.YtimbcmcmidnlfaaDkRefAlike
import Derived.Test.YtimbcmcmidnlfaaDkTwinLaw
namespace Go.Proofs.Ytimbcmcmidnlfaa
open Go.RowKit
namespace Dk
/-- One block that is kept. -/
def at1 (P : Nat) (o : Obj) : Nat → Option Obj := fun i => if i = P then some o else none
def at2 (P : Nat) (o : Obj) (Q : Nat) (o2 : Obj) : Nat → Option Obj := fun i => if i = P then some o else if i = Q then some o2 else none
theorem at1_some {P : Nat} {o : Obj} {i : Nat} {x : Obj} (h : at1 P o i = some x) : i = P ∧ o = x := by
  unfold at1 at h; split at h
  · exact ⟨by assumption, Option.some.inj h⟩
  · cases h
theorem at2_some {P Q : Nat} {o o2 : Obj} {i : Nat} {x : Obj} (h : at2 P o Q o2 i = some x) : (i = P ∧ o = x) ∨ (i = Q ∧ o2 = x) := by
  unfold at2 at h; split at h
  · exact .inl ⟨by assumption, Option.some.inj h⟩
  · split at h
    · exact .inr ⟨by assumption, Option.some.inj h⟩
    · cases h
section
variable {B : Nat} {w0 w : World} {r : Nat} {fp : Nat → Prop} {v : Value} {M : Md} {P Q : Nat} {o o2 : Obj}
theorem Pair.at1 {Z : Nat → Option Obj} (h : Pair Z B w0 w r fp v M) (hP : w.heap[P]? = some o) (hf : ¬ fp P) : Pair (Dk.at1 P o) B w0 w r fp v M :=
  ⟨h.own, h.ref, fun i x hz => by obtain ⟨rfl, rfl⟩ := at1_some hz; exact hP, fun i x hz => by obtain ⟨rfl, rfl⟩ := at1_some hz; exact hf⟩
theorem Pair.at2 {Z : Nat → Option Obj} (h : Pair Z B w0 w r fp v M) (hP : w.heap[P]? = some o) (hf : ¬ fp P) (hQ : w.heap[Q]? = some o2) (hg : ¬ fp Q) : Pair (Dk.at2 P o Q o2) B w0 w r fp v M :=
  ⟨h.own, h.ref, fun i x hz => by rcases at2_some hz with ⟨rfl, rfl⟩ | ⟨rfl, rfl⟩; exact hP; exact hQ, fun i x hz => by rcases at2_some hz with ⟨rfl, rfl⟩ | ⟨rfl, rfl⟩; exact hf; exact hg⟩
theorem Pair.get1 (h : Pair (Dk.at1 P o) B w0 w r fp v M) : w.heap[P]? = some o ∧ ¬ fp P := ⟨h.keep P o (by simp [Dk.at1]), h.nf P o (by simp [Dk.at1])⟩
theorem Pair.get2 (h : Pair (Dk.at2 P o Q o2) B w0 w r fp v M) (hn : Q ≠ P) : (w.heap[P]? = some o ∧ ¬ fp P) ∧ w.heap[Q]? = some o2 ∧ ¬ fp Q :=
  ⟨⟨h.keep P o (by simp [Dk.at2]), h.nf P o (by simp [Dk.at2])⟩, h.keep Q o2 (by simp [Dk.at2, hn]), h.nf Q o2 (by simp [Dk.at2, hn])⟩
theorem Pair.cells4 {Z : Nat → Option Obj} (h : Pair Z B w0 w r fp v M) {A : Option Addr} {n c : Nat} (hP : w.cell? ⟨Q, 0, none⟩ = some (.slice A n c)) (hQf : ¬ fp Q) (hB : B ≤ Q) (x0 x1 x2 x3 : Value) :
    Pair (fun _ => none) B w0 ((((w.setCell ⟨Q, 0, none⟩ x0).setCell ⟨Q, 1, none⟩ x1).setCell ⟨Q, 2, none⟩ x2).setCell ⟨Q, 3, none⟩ x3) r fp v M :=
  ⟨h.own.other (q := fun k => k = Q) ⟨rfl, rfl, rfl, by simp, fun i _ hn => set4_other _ _ _ _ _ _ i hn⟩ (fun k hk e => hQf (e ▸ hk)) (fun k e => by rw [e]; exact hB), h.ref.cells4 hP (fun i hn => set4_other _ _ _ _ _ _ i hn) (by simp), (fun _ _ h => nomatch h), (fun _ _ h => nomatch h)⟩
end
end Dk
set_option maxRecDepth 100000 in
theorem r7New_bad2 (w : World) (n : Int) (h : n < 1 ∨ 4096 < n) :
    Calls Try.prog 28 #[.int .i64 n] w fun e w' => e = .returned (.tuple #[.agg #[.slice none 0 0, .slice none 0 0, .int .i64 0, .bool false], .int .i64 1]) ∧ Below w.heap.size w w' := by
  have b2 : Below w.heap.size w (w.alloc (.cells #[.slice none 0 0, .slice none 0 0, .int .i64 0, .bool false] 59)) := (Below.refl _ w).alloc (Nat.le_refl _) _
  have B2 := Lib.hid b2
  clear b2
  by_cases h1 : n < 1
  · go_enter Try.func28, Try.ntmps28
    go_wp2
    refine bodyPost_ret (v := .tuple #[.agg #[.slice none 0 0, .slice none 0 0, .int .i64 0, .bool false], .int .i64 1]) ((results_cell_tmp rfl _ _ _).trans (by go_simp)) rfl ?_
    exact ⟨rfl, B2.out⟩
  · have h2 : 4096 < n := by omega
    clear h
    go_enter Try.func28, Try.ntmps28
    go_wp2
    refine bodyPost_ret (v := .tuple #[.agg #[.slice none 0 0, .slice none 0 0, .int .i64 0, .bool false], .int .i64 1]) ((results_cell_tmp rfl _ _ _).trans (by go_simp)) rfl ?_
    exact ⟨rfl, B2.out⟩
set_option maxRecDepth 100000 in
set_option maxHeartbeats 8000000 in
theorem diskplays_any (W : World) (n : Int) {A : Option Addr} {c : Nat} {l : List Dk.Ac} (hl : l.length ≤ c ∧ c ≤ 9223372036854775807) (hit : Dk.listAt W A l) (hs : ∀ a ∈ l, a.Ok W) :
    Calls Try.prog 9 #[.int .i64 n, .slice A l.length c] W fun e w' => e = .returned (.bool true) ∧ Below W.heap.size W w' := by
  obtain ⟨gr, hgr⟩ := Dk.gr_of l
  have HIT := Lib.hid hit
  have HS := Lib.hid hs
  have GR : Hid (∀ wx, Below W.heap.size W wx → Calls Try.prog 26 #[.slice A l.length c] wx fun e w' => e = .returned (.bool gr) ∧ wx = w') := fun wx hx => great7_any (Nat.le_trans hl.1 hl.2) (HIT.out.below hx) hs gr hgr
  have AW := Lib.hid (awake7_any W)
  have FR : Hid (gr = false → l.length ≤ 200) := Dk.fair_of hgr
  clear hit hs hgr
  cases gr with
  | true =>
    go_enter Try.func9, Try.ntmps9
    go_wp2_with fail
    refine (AW.out).mono ?_
    rintro e w1 ⟨rfl, b1⟩
    go_wp2_with fail
    refine (GR.out w1 b1).mono ?_
    rintro e w2 ⟨rfl, rfl⟩
    go_wp2
    go_ret
    exact ⟨rfl, b1⟩
  | false =>
    have h200 := FR.out rfl
    by_cases hbig : 40 < n ∧ n ≤ 4096
    · obtain ⟨hb1, hb2⟩ := hbig
      go_enter Try.func9, Try.ntmps9
      go_wp2_with fail
      refine (AW.out).mono ?_
      rintro e w1 ⟨rfl, b1⟩
      go_wp2_with fail
      refine (GR.out w1 b1).mono ?_
      rintro e w2 ⟨rfl, rfl⟩
      go_wp2
      go_ret
      exact ⟨rfl, b1⟩
    · have PASS : Hid (40 < n → ¬ n ≤ 4096) := fun h1 h2 => hbig ⟨h1, h2⟩
      by_cases hbad : n < 1 ∨ 4096 < n
      · have BAD := Lib.hid hbad
        clear hbig hbad
        rcases Int.lt_or_le 40 n with h40 | h40
        · have h41 := PASS.out h40
          go_enter Try.func9, Try.ntmps9
          go_wp2_with fail
          refine (AW.out).mono ?_
          rintro e w1 ⟨rfl, b1⟩
          go_wp2_with fail
          refine (GR.out w1 b1).mono ?_
          rintro e w2 ⟨rfl, rfl⟩
          go_wp2_with fail
          refine (dkNew_bad w1 n BAD.out).mono ?_
          rintro e w2 ⟨rfl, rfl⟩
          go_wp2_with fail
          refine (r7New_bad2 w1 n BAD.out).mono ?_
          rintro e w3 ⟨rfl, k3⟩
          have b3 := b1.trans (k3.mono b1.size)
          have B4 : Hid (Below W.heap.size W (w3.alloc (.cells #[.slice none 0 0, .slice none 0 0, .int .i64 0, .bool false] 59))) := b3.alloc b3.size _
          clear b1 k3 b3
          go_wp2
          go_ret
          exact ⟨rfl, B4.out⟩
        · have h41 : ¬ 40 < n := by omega
          go_enter Try.func9, Try.ntmps9
          go_wp2_with fail
          refine (AW.out).mono ?_
          rintro e w1 ⟨rfl, b1⟩
          go_wp2_with fail
          refine (GR.out w1 b1).mono ?_
          rintro e w2 ⟨rfl, rfl⟩
          go_wp2_with fail
          refine (dkNew_bad w1 n BAD.out).mono ?_
          rintro e w2 ⟨rfl, rfl⟩
          go_wp2_with fail
          refine (r7New_bad2 w1 n BAD.out).mono ?_
          rintro e w3 ⟨rfl, k3⟩
          have b3 := b1.trans (k3.mono b1.size)
          have B4 : Hid (Below W.heap.size W (w3.alloc (.cells #[.slice none 0 0, .slice none 0 0, .int .i64 0, .bool false] 59))) := b3.alloc b3.size _
          clear b1 k3 b3
          go_wp2
          go_ret
          exact ⟨rfl, B4.out⟩
      · obtain ⟨k0, rfl⟩ : ∃ k : Nat, n = (k : Int) := ⟨n.toNat, by omega⟩
        have hk0 : 1 ≤ k0 ∧ k0 ≤ 4096 := by omega
        have hk1 : k0 ≤ 40 := by
          by_cases h : (40 : Int) < (k0 : Int)
          · have := PASS.out h; omega
          · omega
        have h41 : ¬ (40 : Int) < (k0 : Int) := by omega
        clear hbig hbad PASS
        go_enter Try.func9, Try.ntmps9
        go_wp2_with fail
        refine (AW.out).mono ?_
        rintro e w1 ⟨rfl, b1⟩
        go_wp2_with fail
        refine (GR.out w1 b1).mono ?_
        rintro e w2 ⟨rfl, rfl⟩
        go_wp2_with fail
        refine (Dk.new_in b1 (Nat.le_refl _) k0 hk0).mono ?_
        rintro e w2 ⟨r, fp, rfl, o2, -, -⟩
        go_wp2_with fail
        refine (r7New_any w2 fp o2.lt k0 hk0).mono ?_
        rintro e w3 ⟨v, rfl, h3, k3⟩
        obtain ⟨sA, sn, sc, sB, sm, sd, f, o, rfl⟩ := h3.four
        have p3 : Dk.Pair (fun _ => none) W.heap.size W w3 r fp (.agg #[.slice sA sn sc, .slice sB sm sd, .int .i64 f, .bool o]) (Dk.new k0) := ⟨o2.low k3, h3, (fun _ _ h => nomatch h), (fun _ _ h => nomatch h)⟩
        clear o2 h3 k3 b1 GR AW FR
        go_upto_region 12 with (fail)
        have b4 : Below w3.heap.size w3 (w3.alloc (.cells #[.slice sA sn sc, .slice sB sm sd, .int .i64 f, .bool o] 59)) := (Below.refl _ w3).alloc (Nat.le_refl _) _
        have p4 := p3.low b4
        have g4 := heap_alloc_new w3 (.cells #[.slice sA sn sc, .slice sB sm sd, .int .i64 f, .bool o] 59)
        have hPf : ¬ fp w3.heap.size := fun hf => by have := p3.own.lt _ hf; omega
        have hPB : W.heap.size ≤ w3.heap.size := p3.own.size
        obtain ⟨P, hP⟩ : ∃ P, P = w3.heap.size := ⟨_, rfl⟩
        rw [← hP] at g4 hPf hPB ⊢
        clear hP b4 p3
        generalize w3.alloc (.cells #[.slice sA sn sc, .slice sB sm sd, .int .i64 f, .bool o] 59) = w4 at *
        have HPB := Lib.hid hPB
        have hw0 : Dk.waits (Dk.new k0) = 0 := by simp [Dk.waits, Dk.new]; first | done | exact Dk.sum_none _
        clear hPB
        go_loopw [9] (fun s9 wr => ∃ (k : Nat) (fp : Nat → Prop) (M : Dk.Md) (sA : Option Addr) (sn sc : Nat) (sB : Option Addr) (sm sd : Nat) (f : Int) (o : Bool), s9 = .int .i64 k ∧ k ≤ l.length ∧ Dk.Pair (Dk.at1 P (.cells #[.slice sA sn sc, .slice sB sm sd, .int .i64 f, .bool o] 59 (0, 0))) W.heap.size W wr r fp (.agg #[.slice sA sn sc, .slice sB sm sd, .int .i64 f, .bool o]) M ∧ Dk.waits M ≤ k) (fun s9 _ => l.length - (intOf s9).toNat)
        case atStart => exact ⟨0, fp, _, sA, sn, sc, sB, sm, sd, f, o, rfl, Nat.zero_le _, p4.at1 g4 hPf, by omega⟩
        case round =>
          clear p4 g4 hPf hw0
          obtain ⟨k, fp, M, sA, sn, sc, sB, sm, sd, f, o, rfl, hk, pp, hwk⟩ := hrel
          obtain ⟨gg, hPf⟩ := pp.get1
          by_cases hlt : k < l.length
          · have hlt1 : (k : Int) < l.length := by omega
            have hsuc : IntKind.i64.wrap ((k : Int) + 1) = ((k + 1 : Nat) : Int) := by simp [IntKind.wrap, IntKind.bits, IntKind.signed]; omega
            obtain ⟨b, off, rfl, hbl, hia⟩ := HIT.out.resolve_left (by rintro rfl; simp at hlt)
            have hAC : ∀ wx : World, Below W.heap.size W wx → Dk.actAt wx b (off + k * 7) l[k] := fun wx hb => (hia k hlt).below hb hbl
            have hok := HS.out _ (List.getElem_mem hlt)
            obtain ⟨x, hx⟩ : ∃ x, x = l[k] := ⟨_, rfl⟩
            rw [← hx] at hAC hok
            have HOK := Lib.hid hok
            have HAC := Lib.hid hAC
            clear hx hok hia hAC
            obtain ⟨bl, hbl2⟩ : ∃ q : List Value, q = [.slice sA sn sc, .slice sB sm sd, .int .i64 f, .bool o] := ⟨_, rfl⟩
            have hba : bl.toArray = #[.slice sA sn sc, .slice sB sm sd, .int .i64 f, .bool o] := by rw [hbl2]
            have hbl4 : bl.length = 4 := by rw [hbl2]; rfl
            obtain ⟨xs, hxs⟩ : ∃ xs, xs = x.cells := ⟨_, rfl⟩
            have hxl : xs.length = 7 := by rw [hxs]; rfl
            have hxr : ∀ wx : World, Below W.heap.size W wx → wx.rangeAt b (off + k * 7) xs := fun wx hb j u hu => by
              obtain ⟨c0, c1, c2, c3, c4, c5, c6⟩ := HAC.out wx hb
              have hj : j < 7 := by have := (List.getElem?_eq_some_iff.1 hu).1; omega
              rw [hxs] at hu
              match j, hj with
              | 0, _ => simp [Dk.Ac.cells] at hu; subst hu; exact c0
              | 1, _ => simp [Dk.Ac.cells] at hu; subst hu; exact c1
              | 2, _ => simp [Dk.Ac.cells] at hu; subst hu; exact c2
              | 3, _ => simp [Dk.Ac.cells] at hu; subst hu; exact c3
              | 4, _ => simp [Dk.Ac.cells] at hu; subst hu; exact c4
              | 5, _ => simp [Dk.Ac.cells] at hu; subst hu; exact c5
              | 6, _ => simp [Dk.Ac.cells] at hu; subst hu; exact c6
            have HXS := Lib.hid hxs
            have HXR := Lib.hid hxr
            have HBA := Lib.hid hba
            have DO : Hid (∀ (Z : Nat → Option Obj) (wx : World), Dk.Pair Z W.heap.size W wx r fp (.agg #[.slice sA sn sc, .slice sB sm sd, .int .i64 f, .bool o]) M → Calls Try.prog 29 #[.pointer (some ⟨r, 0, none⟩), .agg bl.toArray, .agg xs.toArray] wx fun e w' => ∃ v' fp', e = .returned (.tuple #[v', .bool true]) ∧ Dk.Pair Z W.heap.size W w' r fp' v' (Dk.doAct M x)) := fun Z wx hp => by
              rw [HXS.out, HBA.out]
              exact does7_any hp (by omega) x HOK.out rfl HOK.out.x
            have HWK : Hid (Dk.waits (Dk.doAct M x) ≤ k + 1) := Nat.le_trans (Dk.waits_doAct M x) (by omega)
            clear hbl2 hxs hxr
            have pd := pp.low ((Below.refl _ wr).drew)
            have gd : wr.drew.heap[P]? = some (.cells bl.toArray 59 (0, 0)) := by rw [hba]; exact gg
            clear pp gg hba
            go_upto_region 14 with (fail)
            refine wp_region_held_drew (S := (fun w' => w'.heap[P]? = some (.cells bl.toArray 59 (0, 0)) ∧ w'.rangeAt b (off + k * 7) xs)) (by kernel_rfl) ⟨gd, HXR.out _ pd.own.below⟩ (fun hHeld => ?_)
            generalize wr.drew = wd at *
            refine wpAnyH_take (i := 0) (oi := ⟨some 53, _, _, _, _, _⟩) (v := .pointer (some ⟨r, 0, none⟩)) rfl (by kernel_rfl) (by kernel_rfl) (by kernel_rfl) (fun _ _ _ h => h) (Or.inl ⟨by rfl, ?_⟩) (by assumption) ?_
            · intro w hSw; (try dsimp only at hSw); go_simp
            simp only [Act.put, List.setIfInBounds_toArray, List.set_cons_zero, List.set_cons_succ]
            refine wpAnyH_take (i := 1) (oi := ⟨some 54, _, _, _, _, _⟩) (v := .agg bl.toArray) rfl (by kernel_rfl) (by kernel_rfl) (by kernel_rfl) (fun _ _ _ h => h) (yieldsIf_load_mid (by rfl) _ _ rfl _ _ rfl bl _ (fun w hS => (Sm.range_row hS.1)) Try.underlying59 rfl (Dk.info_dsk hbl4)) (by assumption) ?_
            simp only [Act.put, List.setIfInBounds_toArray, List.set_cons_zero, List.set_cons_succ]
            refine wpAnyH_take (i := 2) (oi := ⟨some 55, _, _, _, _, _⟩) (v := .slice (some ⟨b, off, none⟩) l.length c) rfl (by kernel_rfl) (by kernel_rfl) (by kernel_rfl) (fun _ _ _ h => h) (Or.inl ⟨by rfl, ?_⟩) (by assumption) ?_
            · intro w hSw; (try dsimp only at hSw); go_simp
            simp only [Act.put, List.setIfInBounds_toArray, List.set_cons_zero, List.set_cons_succ]
            refine wpAnyH_take (i := 3) (oi := ⟨some 56, _, _, _, _, _⟩) (v := .int .i64 (k : Int)) rfl (by kernel_rfl) (by kernel_rfl) (by kernel_rfl) (fun _ _ _ h => h) (Or.inl ⟨by rfl, ?_⟩) (by assumption) ?_
            · intro w hSw; (try dsimp only at hSw); go_simp
            simp only [Act.put, List.setIfInBounds_toArray, List.set_cons_zero, List.set_cons_succ]
            refine wpAnyH_take (i := 4) (oi := ⟨some 57, _, _, _, _, _⟩) (v := .pointer (some ⟨b, off + k * 7, none⟩)) rfl (by kernel_rfl) (by kernel_rfl) (by kernel_rfl) (fun _ _ _ h => h) (Or.inl ⟨by rfl, ?_⟩) (by assumption) ?_
            · intro w hSw; (try dsimp only at hSw); go_simp
            simp only [Act.put, List.setIfInBounds_toArray, List.set_cons_zero, List.set_cons_succ]
            refine wpAnyH_take (i := 5) (oi := ⟨some 58, _, _, _, _, _⟩) (v := .agg xs.toArray) rfl (by kernel_rfl) (by kernel_rfl) (by kernel_rfl) (fun _ _ _ h => h) (yieldsIf_load_mid (by rfl) _ _ rfl _ _ rfl xs _ (fun w hS => hS.2) Try.underlying66 rfl (Dk.info_act7 hxl)) (by assumption) ?_
            simp only [Act.put, List.setIfInBounds_toArray, List.set_cons_zero, List.set_cons_succ]
            refine wpAnyH_ready (rs := [6, 10]) (by kernel_rfl) (by simp) ?_
            refine (AllReadyH.cons (o := ⟨some 59, _, _, _, _, _⟩) rfl (fun K hK => ?_) (AllReadyH.cons (o := ⟨some 10, _, _, _, _, _⟩) rfl (fun K hK => ?_) AllReadyH.nil))
            · go_simp
              refine (DO.out _ _ pd).mono ?_
              rintro e u1 ⟨vn, fp1, rfl, q1⟩
              obtain ⟨tA, tn, tc, tB, tm, td, f2, o2, rfl⟩ := q1.ref.four
              have g1 : u1.heap[P]? = some (.cells bl.toArray 59 (0, 0)) := by rw [HBA.out]; exact q1.get1.1
              refine hK.out _ _ ⟨g1, HXR.out _ q1.own.below⟩ (fun hHeld => ?_)
              clear hK K
              refine wpAnyH_take (i := 7) (oi := ⟨some 52, _, _, _, _, _⟩) (v := .tuple #[.agg #[.slice tA tn tc, .slice tB tm td, .int .i64 f2, .bool o2], .bool true]) rfl (by kernel_rfl) (by kernel_rfl) (by kernel_rfl) (fun _ _ _ h => h) (Or.inl ⟨by rfl, ?_⟩) (by assumption) ?_
              · intro w hSw; (try dsimp only at hSw); go_simp
              simp only [Act.put, List.setIfInBounds_toArray, List.set_cons_zero, List.set_cons_succ]
              refine wpAnyH_take (i := 8) (oi := ⟨some 60, _, _, _, _, _⟩) (v := .agg #[.slice tA tn tc, .slice tB tm td, .int .i64 f2, .bool o2]) rfl (by kernel_rfl) (by kernel_rfl) (by kernel_rfl) (fun _ _ _ h => h) (Or.inl ⟨by rfl, ?_⟩) (by assumption) ?_
              · intro w hSw; (try dsimp only at hSw); go_simp
              simp only [Act.put, List.setIfInBounds_toArray, List.set_cons_zero, List.set_cons_succ]
              refine wpAnyH_take (i := 9) (oi := ⟨some 61, _, _, _, _, _⟩) (v := .bool true) rfl (by kernel_rfl) (by kernel_rfl) (by kernel_rfl) (fun _ _ _ h => h) (Or.inl ⟨by rfl, ?_⟩) (by assumption) ?_
              · intro w hSw; (try dsimp only at hSw); go_simp
              simp only [Act.put, List.setIfInBounds_toArray, List.set_cons_zero, List.set_cons_succ]
              refine wpAnyH_ready (rs := [10]) (by kernel_rfl) (by simp) ?_
              refine (AllReadyH.cons (o := ⟨some 10, _, _, _, _, _⟩) rfl (fun K hK => ?_) AllReadyH.nil)
              rw [if_pos (by simp [Region.wanted])]
              go_simp
              have b2 : Below u1.heap.size u1 (u1.alloc (.cells #[.slice none 0 0, .slice none 0 0, .int .i64 0, .bool false] 59)) := (Below.refl _ u1).alloc (Nat.le_refl _) _
              have qx := q1.low b2
              have pQ := heap_alloc_new u1 (.cells #[.slice none 0 0, .slice none 0 0, .int .i64 0, .bool false] 59)
              have gx := (b2.block P (Sm.lt_of g1)).trans g1
              have hQP : u1.heap.size ≠ P := by have := Sm.lt_of g1; omega
              have hQf : ¬ fp1 u1.heap.size := fun hf => by have := q1.own.lt _ hf; omega
              have hQB : W.heap.size ≤ u1.heap.size := q1.own.size
              have hPx := q1.get1.2
              obtain ⟨Q, hQ⟩ : ∃ Q, Q = u1.heap.size := ⟨_, rfl⟩
              rw [← hQ] at pQ hQP hQf hQB ⊢
              clear hQ b2 q1 g1
              generalize u1.alloc (.cells #[.slice none 0 0, .slice none 0 0, .int .i64 0, .bool false] 59) = ux at *
              refine hK.out _ _ ⟨gx, HXR.out _ qx.own.below⟩ (fun hHeld => ?_)
              clear hK K
              refine wpAnyH_ready (rs := [11]) (by kernel_rfl) (by simp) ?_
              refine (AllReadyH.cons (o := ⟨none, _, _, _, _, _⟩) rfl (fun K hK => ?_) AllReadyH.nil)
              have x0 := Sm.cells_of pQ 0 _ rfl
              have x1 := Sm.cells_of pQ 1 _ rfl
              have x2 := Sm.cells_of pQ 2 _ rfl
              have x3 := Sm.cells_of pQ 3 _ rfl
              have f0 := Sm.free_of pQ 0
              have f1 := Sm.free_of pQ 1
              have f2' := Sm.free_of pQ 2
              have f3 := Sm.free_of pQ 3
              go_simp
              have q3 := qx.cells4 (Q := Q) x0 hQf hQB (.slice tA tn tc) (.slice tB tm td) (.int .i64 f2) (.bool o2)
              have p3 := Dk.set4 pQ rfl (.slice tA tn tc) (.slice tB tm td) (.int .i64 f2) (.bool o2)
              have g3 := (Dk.set4_other ux Q (.slice tA tn tc) (.slice tB tm td) (.int .i64 f2) (.bool o2) P (fun e => hQP e.symm)).trans gx
              clear x0 x1 x2 x3 f0 f1 f2' f3
              generalize ((((ux.setCell ⟨Q, 0, none⟩ (.slice tA tn tc)).setCell ⟨Q, 1, none⟩ (.slice tB tm td)).setCell ⟨Q, 2, none⟩ (.int .i64 f2)).setCell ⟨Q, 3, none⟩ (.bool o2)) = u3 at *
              refine hK.out _ _ ⟨g3, HXR.out _ q3.own.below⟩ (fun hHeld => ?_)
              clear hK K
              refine wpAnyH_take (i := 12) (oi := ⟨some 11, _, _, _, _, _⟩) (v := .bool true) rfl (by kernel_rfl) (by kernel_rfl) (by kernel_rfl) (fun _ _ _ h => h) (Or.inl ⟨by rfl, ?_⟩) (by assumption) ?_
              · intro w hSw; (try dsimp only at hSw); go_simp
              simp only [Act.put, List.setIfInBounds_toArray, List.set_cons_zero, List.set_cons_succ]
              refine wpAnyH_done (by kernel_rfl) ?_ _
              clear hHeld
              rw [HBA.out] at g3
              have q4 := (q3.cells4 (Q := P) (Sm.cells_of g3 0 _ rfl) hPx HPB.out (.slice tA tn tc) (.slice tB tm td) (.int .i64 f2) (.bool o2)).at1 (Dk.set4 g3 rfl (.slice tA tn tc) (.slice tB tm td) (.int .i64 f2) (.bool o2)) hPx
              have Q4 := Lib.hid q4
              have x0 := Sm.cells_of p3 0 _ rfl
              have x1 := Sm.cells_of p3 1 _ rfl
              have x2 := Sm.cells_of p3 2 _ rfl
              have x3 := Sm.cells_of p3 3 _ rfl
              have y0 := Sm.cells_of g3 0 _ rfl
              have y1 := Sm.cells_of g3 1 _ rfl
              have y2 := Sm.cells_of g3 2 _ rfl
              have y3 := Sm.cells_of g3 3 _ rfl
              have e0 := Sm.free_of g3 0
              have e1 := Sm.free_of g3 1
              have e2 := Sm.free_of g3 2
              have e3 := Sm.free_of g3 3
              clear q3 q4 g3 p3 qx gx pQ
              go_upto_region 16 with (fail)
              clear x0 x1 x2 x3 y0 y1 y2 y3 e0 e1 e2 e3
              have HN4 := Q4.out
              generalize ((((u3.setCell ⟨P, 0, none⟩ (.slice tA tn tc)).setCell ⟨P, 1, none⟩ (.slice tB tm td)).setCell ⟨P, 2, none⟩ (.int .i64 f2)).setCell ⟨P, 3, none⟩ (.bool o2)) = u4 at *
              have y0 := Sm.cells_of HN4.get1.1 0 _ rfl
              have y1 := Sm.cells_of HN4.get1.1 1 _ rfl
              have y2 := Sm.cells_of HN4.get1.1 2 _ rfl
              have y3 := Sm.cells_of HN4.get1.1 3 _ rfl
              clear HN4
              go_wp2_with fail
              refine (alike7_any Q4.out (by have := HWK.out; omega)).mono ?_
              rintro e u5 ⟨rfl, q5⟩
              have Q5 := Lib.hid q5
              clear q5 y0 y1 y2 y3
              go_wp2
              go_roundw
              case rel => exact ⟨k + 1, fp1, Dk.doAct M x, tA, tn, tc, tB, tm, td, f2, o2, rfl, hlt, Q5.out, HWK.out⟩
              case measure => simp [intOf]; omega
            · rw [if_pos (by simp [Region.wanted])]
              go_simp
              have b2 : Below wd.heap.size wd (wd.alloc (.cells #[.slice none 0 0, .slice none 0 0, .int .i64 0, .bool false] 59)) := (Below.refl _ wd).alloc (Nat.le_refl _) _
              have q1 := pd.low b2
              have pQ1 := heap_alloc_new wd (.cells #[.slice none 0 0, .slice none 0 0, .int .i64 0, .bool false] 59)
              have gd1 := (b2.block P (Sm.lt_of gd)).trans gd
              have hQP : wd.heap.size ≠ P := by have := Sm.lt_of gd; omega
              have hQf1 : ¬ fp wd.heap.size := fun hf => by have := pd.own.lt _ hf; omega
              have hQB : W.heap.size ≤ wd.heap.size := pd.own.size
              obtain ⟨Q, hQ⟩ : ∃ Q, Q = wd.heap.size := ⟨_, rfl⟩
              rw [← hQ] at pQ1 hQP hQf1 hQB ⊢
              clear hQ b2
              generalize wd.alloc (.cells #[.slice none 0 0, .slice none 0 0, .int .i64 0, .bool false] 59) = u1 at *
              refine hK.out _ _ ⟨gd1, HXR.out _ q1.own.below⟩ (fun hHeld => ?_)
              clear hK K
              refine wpAnyH_ready (rs := [6]) (by kernel_rfl) (by simp) ?_
              refine (AllReadyH.cons (o := ⟨some 59, _, _, _, _, _⟩) rfl (fun K hK => ?_) AllReadyH.nil)
              go_simp
              refine (DO.out _ _ (q1.at2 gd1 hPf pQ1 hQf1)).mono ?_
              rintro e ux ⟨vn, fp1, rfl, q2⟩
              obtain ⟨tA, tn, tc, tB, tm, td, f2, o2, rfl⟩ := q2.ref.four
              obtain ⟨⟨gx, hPx⟩, pQ, hQf⟩ := q2.get2 hQP
              have qx := q2.at1 gx hPx
              clear q1 q2 pQ1 gd1 hQf1
              refine hK.out _ _ ⟨gx, HXR.out _ qx.own.below⟩ (fun hHeld => ?_)
              clear hK K
              refine wpAnyH_take (i := 7) (oi := ⟨some 52, _, _, _, _, _⟩) (v := .tuple #[.agg #[.slice tA tn tc, .slice tB tm td, .int .i64 f2, .bool o2], .bool true]) rfl (by kernel_rfl) (by kernel_rfl) (by kernel_rfl) (fun _ _ _ h => h) (Or.inl ⟨by rfl, ?_⟩) (by assumption) ?_
              · intro w hSw; (try dsimp only at hSw); go_simp
              simp only [Act.put, List.setIfInBounds_toArray, List.set_cons_zero, List.set_cons_succ]
              refine wpAnyH_take (i := 8) (oi := ⟨some 60, _, _, _, _, _⟩) (v := .agg #[.slice tA tn tc, .slice tB tm td, .int .i64 f2, .bool o2]) rfl (by kernel_rfl) (by kernel_rfl) (by kernel_rfl) (fun _ _ _ h => h) (Or.inl ⟨by rfl, ?_⟩) (by assumption) ?_
              · intro w hSw; (try dsimp only at hSw); go_simp
              simp only [Act.put, List.setIfInBounds_toArray, List.set_cons_zero, List.set_cons_succ]
              refine wpAnyH_take (i := 9) (oi := ⟨some 61, _, _, _, _, _⟩) (v := .bool true) rfl (by kernel_rfl) (by kernel_rfl) (by kernel_rfl) (fun _ _ _ h => h) (Or.inl ⟨by rfl, ?_⟩) (by assumption) ?_
              · intro w hSw; (try dsimp only at hSw); go_simp
              simp only [Act.put, List.setIfInBounds_toArray, List.set_cons_zero, List.set_cons_succ]
              refine wpAnyH_ready (rs := [11]) (by kernel_rfl) (by simp) ?_
              refine (AllReadyH.cons (o := ⟨none, _, _, _, _, _⟩) rfl (fun K hK => ?_) AllReadyH.nil)
              have x0 := Sm.cells_of pQ 0 _ rfl
              have x1 := Sm.cells_of pQ 1 _ rfl
              have x2 := Sm.cells_of pQ 2 _ rfl
              have x3 := Sm.cells_of pQ 3 _ rfl
              have f0 := Sm.free_of pQ 0
              have f1 := Sm.free_of pQ 1
              have f2' := Sm.free_of pQ 2
              have f3 := Sm.free_of pQ 3
              go_simp
              have q3 := qx.cells4 (Q := Q) x0 hQf hQB (.slice tA tn tc) (.slice tB tm td) (.int .i64 f2) (.bool o2)
              have p3 := Dk.set4 pQ rfl (.slice tA tn tc) (.slice tB tm td) (.int .i64 f2) (.bool o2)
              have g3 := (Dk.set4_other ux Q (.slice tA tn tc) (.slice tB tm td) (.int .i64 f2) (.bool o2) P (fun e => hQP e.symm)).trans gx
              clear x0 x1 x2 x3 f0 f1 f2' f3
              generalize ((((ux.setCell ⟨Q, 0, none⟩ (.slice tA tn tc)).setCell ⟨Q, 1, none⟩ (.slice tB tm td)).setCell ⟨Q, 2, none⟩ (.int .i64 f2)).setCell ⟨Q, 3, none⟩ (.bool o2)) = u3 at *
              refine hK.out _ _ ⟨g3, HXR.out _ q3.own.below⟩ (fun hHeld => ?_)
              clear hK K
              refine wpAnyH_take (i := 12) (oi := ⟨some 11, _, _, _, _, _⟩) (v := .bool true) rfl (by kernel_rfl) (by kernel_rfl) (by kernel_rfl) (fun _ _ _ h => h) (Or.inl ⟨by rfl, ?_⟩) (by assumption) ?_
              · intro w hSw; (try dsimp only at hSw); go_simp
              simp only [Act.put, List.setIfInBounds_toArray, List.set_cons_zero, List.set_cons_succ]
              refine wpAnyH_done (by kernel_rfl) ?_ _
              clear hHeld
              rw [HBA.out] at g3
              have q4 := (q3.cells4 (Q := P) (Sm.cells_of g3 0 _ rfl) hPx HPB.out (.slice tA tn tc) (.slice tB tm td) (.int .i64 f2) (.bool o2)).at1 (Dk.set4 g3 rfl (.slice tA tn tc) (.slice tB tm td) (.int .i64 f2) (.bool o2)) hPx
              have Q4 := Lib.hid q4
              have x0 := Sm.cells_of p3 0 _ rfl
              have x1 := Sm.cells_of p3 1 _ rfl
              have x2 := Sm.cells_of p3 2 _ rfl
              have x3 := Sm.cells_of p3 3 _ rfl
              have y0 := Sm.cells_of g3 0 _ rfl
              have y1 := Sm.cells_of g3 1 _ rfl
              have y2 := Sm.cells_of g3 2 _ rfl
              have y3 := Sm.cells_of g3 3 _ rfl
              have e0 := Sm.free_of g3 0
              have e1 := Sm.free_of g3 1
              have e2 := Sm.free_of g3 2
              have e3 := Sm.free_of g3 3
              clear q3 q4 g3 p3 qx gx pQ
              go_upto_region 16 with (fail)
              clear x0 x1 x2 x3 y0 y1 y2 y3 e0 e1 e2 e3
              have HN4 := Q4.out
              generalize ((((u3.setCell ⟨P, 0, none⟩ (.slice tA tn tc)).setCell ⟨P, 1, none⟩ (.slice tB tm td)).setCell ⟨P, 2, none⟩ (.int .i64 f2)).setCell ⟨P, 3, none⟩ (.bool o2)) = u4 at *
              have y0 := Sm.cells_of HN4.get1.1 0 _ rfl
              have y1 := Sm.cells_of HN4.get1.1 1 _ rfl
              have y2 := Sm.cells_of HN4.get1.1 2 _ rfl
              have y3 := Sm.cells_of HN4.get1.1 3 _ rfl
              clear HN4
              go_wp2_with fail
              refine (alike7_any Q4.out (by have := HWK.out; omega)).mono ?_
              rintro e u5 ⟨rfl, q5⟩
              have Q5 := Lib.hid q5
              clear q5 y0 y1 y2 y3
              go_wp2
              go_roundw
              case rel => exact ⟨k + 1, fp1, Dk.doAct M x, tA, tn, tc, tB, tm, td, f2, o2, rfl, hlt, Q5.out, HWK.out⟩
              case measure => simp [intOf]; omega
          · have hlt1 : ¬ (k : Int) < l.length := by omega
            have b := pp.own.below
            clear pp gg
            go_wp2
            go_ret
            exact ⟨rfl, b⟩
end Go.Proofs.Ytimbcmcmidnlfaa
