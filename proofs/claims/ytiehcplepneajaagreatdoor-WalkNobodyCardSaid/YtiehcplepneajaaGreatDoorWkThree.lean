/-
  Texts that belong together, laid into one.
-/
import Derived.Test.YtiehcplepneajaaGreatDoorWkTwo
import Derived.Test.YtiehcplepneajaaGreatDoorTrD
import Derived.Deep.RegionHeld3
/-
  What a walk leads to: the buckets' rows one behind the other, sorted; walk's byPath, and slices.SortFunc by it.
-/
namespace Go.Proofs.YtiehcplepneajaaGreatDoor
open Go.RowKit Go.Sort
namespace Wk
open Om (Pr lt Rises put)
/-- The first n buckets' rows, one behind the other. -/
def catS (l : List Pr) (S : St) : Nat → List Pr
  | 0 => []
  | n + 1 => catS l S n ++ partOf l S n
/-- In order. -/
def out (l : List Pr) (S : St) : List Pr := (catS l S 16).foldr (fun x m => put x.p x.v m) []
theorem put_mem {p v : ByteArray} {m : List Pr} {y : Pr} (h : y ∈ put p v m) : y = ⟨p, v⟩ ∨ y ∈ m := by
  induction m with
  | nil => simp [put] at h; exact .inl h
  | cons x r ih =>
    unfold put at h
    split at h
    · rcases List.mem_cons.1 h with rfl | h
      · exact .inr (by simp)
      · rcases ih h with h | h
        · exact .inl h
        · exact .inr (by simp [h])
    · split at h
      · rcases List.mem_cons.1 h with rfl | h
        · exact .inl rfl
        · exact .inr (by simp [h])
      · rcases List.mem_cons.1 h with rfl | h
        · exact .inl rfl
        · exact .inr h
theorem put_perm {p v : ByteArray} {m : List Pr} (h : ∀ y ∈ m, y.p ≠ p) : (put p v m).Perm (⟨p, v⟩ :: m) := by
  induction m with
  | nil => exact .refl _
  | cons x r ih =>
    unfold put
    split
    · exact ((ih fun y hy => h y (by simp [hy])).cons x).trans (.swap _ _ _)
    · rw [if_neg (h x (by simp))]
theorem foldr_put : ∀ {d : List Pr}, d.Pairwise (fun x y => x.p ≠ y.p) → Rises (d.foldr (fun x m => put x.p x.v m) []) ∧ d.Perm (d.foldr (fun x m => put x.p x.v m) [])
  | [], _ => ⟨List.Pairwise.nil, .refl _⟩
  | x :: r, h => by
    obtain ⟨h1, h2⟩ := List.pairwise_cons.1 h
    obtain ⟨i1, i2⟩ := foldr_put h2
    refine ⟨Om.put_rises i1, ?_⟩
    refine .trans (i2.cons x) (put_perm fun y hy => ?_).symm
    have := i2.mem_iff.2 hy
    exact fun e => h1 y this e.symm
/-- What the base's and the staged rows are. -/
structure FitS (l : List Pr) (S : St) : Prop where
  page : ∀ i : Nat, i < 16 → Bu.pageE (i : Int) (partOf l S i) = 0
theorem FitS.of {l : List Pr} {S : St} (h : Tr.Fit l) (hG : Good S) : FitS l S := ⟨fun i hi => by
  unfold partOf
  cases hP : S.P i with
  | none => exact Bu.page_part h.may h.len (by omega)
  | some m => exact hG i m hP⟩
section
variable {l : List Pr} {S : St}
theorem catS_length (h : FitS l S) : ∀ n, n ≤ 16 → (catS l S n).length ≤ 48 * n
  | 0, _ => Nat.le_refl _
  | n + 1, hn => by
    have h1 := catS_length h n (by omega)
    have h2 := (Bu.pageE_ok (h.page n (by omega))).2.2.2
    unfold catS
    rw [List.length_append]
    omega
theorem catS_bk (h : FitS l S) : ∀ n, n ≤ 16 → ∀ x ∈ catS l S n, Bu.bk x.p < n
  | 0, _, x, hx => by cases hx
  | n + 1, hn, x, hx => by
    unfold catS at hx
    rcases List.mem_append.1 hx with hx | hx
    · have := catS_bk h n (by omega) x hx; omega
    · have := List.all_eq_true.1 (Bu.pageE_ok (h.page n (by omega))).2.2.1 x hx
      unfold Bu.isOf at this
      rw [decide_eq_true_eq] at this
      omega
theorem catS_apart (h : FitS l S) : ∀ n, n ≤ 16 → (catS l S n).Pairwise (fun x y => x.p ≠ y.p)
  | 0, _ => List.Pairwise.nil
  | n + 1, hn => by
    unfold catS
    refine List.pairwise_append.2 ⟨catS_apart h n (by omega), ?_, fun x hx y hy e => ?_⟩
    · exact ((Bu.may_iff.1 (Bu.pageE_ok (h.page n (by omega))).2.1).2).imp fun h => Om.lt_ne h
    · have h1 := catS_bk h n (by omega) x hx
      have h2 := List.all_eq_true.1 (Bu.pageE_ok (h.page n (by omega))).2.2.1 y hy
      unfold Bu.isOf at h2
      rw [decide_eq_true_eq] at h2
      rw [e] at h1
      omega
theorem out_rises (h : FitS l S) : Rises (out l S) := (foldr_put (catS_apart h 16 (by omega))).1
theorem out_perm (h : FitS l S) : (catS l S 16).Perm (out l S) := (foldr_put (catS_apart h 16 (by omega))).2
end
end Wk
set_option maxRecDepth 100000 in
set_option maxHeartbeats 1000000 in
theorem wkByPath_any (w : World) (x y : Om.Pr) : Calls Tryz.prog 68 #[.agg #[.string x.p, .string x.v], .agg #[.string y.p, .string y.v]] w fun e w' => e = .returned (.int .i64 (Tr.cmpS x.p y.p)) ∧ ∃ q os', w' = grow (w.drewN q) os' := by
  have BP := Lib.hid (fun wx => cmpStr_any wx x.p y.p)
  generalize Tr.cmpS x.p y.p = c at *
  go_enter Tryz.func68, Tryz.ntmps68
  go_wp2_with (go_at_call 101; refine (BP.out _).mono ?_; rintro e w1 ⟨rfl, rfl⟩)
  go_ret
  exact ⟨rfl, 0, _, by rw [alloc_eq_grow, alloc_eq_grow, grow_grow]; rfl⟩
theorem wkPSort_any {w : World} {N c : Nat} {A : Option Addr} {d l : List Om.Pr} (h : Om.Row w N A c d) (hN : N ≤ w.heap.size) (hl : Om.Rises l) (hp : d.Perm l) (hn : d.length ≤ 1000000) :
    Calls Tryz.prog 67 #[.slice A d.length c, .func (.func 68) #[] #[]] w fun e w' => e = .returned (.tuple #[]) ∧ Om.listAt w' A l ∧ Below N w w' := by
  by_cases h0 : d = []
  · subst h0
    have hl0 : l = [] := List.Perm.nil_eq hp ▸ rfl
    subst hl0
    have := AnyF.slices_SortFunc_none { Om.sortPr with } A c (.func (.func 68) #[] #[]) w
    change Calls Tryz.prog 67 _ _ _ at this
    exact this.mono fun e w' ⟨h1, h2⟩ => ⟨h1, .inl rfl, by rw [h2]; exact Below.refl _ _⟩
  · obtain ⟨b, off, hA, hb, -⟩ := h.listAt.resolve_left h0
    subst hA
    have hoff : off = 0 := by
      rcases h.2 with ⟨e, _⟩ | ⟨g, cap, cur, e, _⟩
      · cases e
      · injection e with e1
        simp only [Option.some.injEq, Addr.mk.injEq] at e1
        exact e1.2.1
    subst hoff
    have hNb : N ≤ b := (h.blk (q := b) rfl).1
    have eg : ∀ args w, (callFunc 68 args).run Tryz.prog w = .ok (.enter 68 args) w := Go.Proofs.enters_of Tryz.func68 (by kernel_rfl) rfl
    have hcon := AnyQ.slices_SortFunc Om.sortPr 2 (fun w => by kernel_rfl) (fun w => by kernel_rfl) Om.Pr.cells (fun _ => rfl) (fun x v hv => Om.cells_one' x v hv) Tr.cf Tr.swo 68 #[] b 0 c d.toArray w eg (fun _ _ _ _ x y => wkByPath_any _ x y) (Tr.row_holds h) hb (by simp; omega)
    rw [List.size_toArray] at hcon
    change Calls Tryz.prog 67 _ _ _ at hcon
    refine hcon.mono fun e w' ⟨h1, d', n, os, hperm, hsort, hw⟩ => ⟨h1, ?_, by rw [hw]; exact Tr.sort_below hNb hN _ _⟩
    obtain ⟨hds, -, hpp⟩ := hperm
    have hds2 : d'.size = d.length := by simpa using hds
    have hpl : d'.toList.Perm d := by
      have e1 : d'.extract 0 d.length = d' := by rw [← hds2, Array.extract_size]
      have e2 : d.toArray.extract 0 d.length = d.toArray := by simp
      rw [e1, e2] at hpp
      exact hpp
    have heq : d'.toList = l := Tr.sorted_is (hpl.trans hp) hl fun i j hi hj hij => by
      have q : j < d'.size := by simpa using hj
      have := hsort i j (Nat.zero_le _) hij (by rw [hds2] at q; simpa using q)
      rw [Tr.lt_cf] at this
      simp only [Array.length_toList] at hi hj
      rw [getElem!_pos d' j hj, getElem!_pos d' i hi] at this
      simpa using this
    have hh := holdsK_sortWorldK Om.Pr.cells 2 w b 0 n d.toArray d' os hb (Tr.row_holds h) (by rw [List.size_toArray]; exact hds)
    rw [← hw] at hh
    refine .inr ⟨b, 0, rfl, by rw [hw]; exact lt_sortWorldK _ _ _ _ _ _ _ _ hb, fun k hk => ?_⟩
    have hkd : k < d'.size := by rw [← heq] at hk; simpa using hk
    have hlk : l[k] = d'[k] := by
      have : d'.toList[k]'(by simpa using hkd) = d'[k] := by simp
      rw [← this]
      congr 1
      exact heq.symm
    have c0 := HoldsK.cells hh (fun _ => rfl) hkd 0 (.string l[k].p) (by rw [getElem!_pos d' k hkd, hlk]; rfl)
    have c1 := HoldsK.cells hh (fun _ => rfl) hkd 1 (.string l[k].v) (by rw [getElem!_pos d' k hkd, hlk]; rfl)
    rw [Addr.add_lit] at c0 c1
    exact ⟨c0, c1⟩
end Go.Proofs.YtiehcplepneajaaGreatDoor

/-
  walk's Done: the pairs to which a walk led, if nothing is asked for any more.
-/
namespace Go.Proofs.YtiehcplepneajaaGreatDoor
open Go.RowKit Go.Maps
namespace Wk
theorem reads_size {F : Nat → Option Value} {D : DataW Value} (h : Reads F D) (ht : ∃ es, D = .map es ∧ es.Pairwise (fun p q => p.1 ≠ q.1) ∧ ∀ p ∈ es, WideAt.IsKeyLit p.1) : Maps.size D = 0 ↔ ∀ k, k < 31 → F k = none := by
  obtain ⟨es, rfl, -, hkl⟩ := ht
  constructor
  · intro h0 k hk
    have h1 := h.has k hk
    have : es = [] := List.eq_nil_of_length_eq_zero h0
    subst this
    cases hF : F k with
    | none => rfl
    | some v => rw [hF] at h1; simp [Maps.has] at h1
  · intro h0
    cases es with
    | nil => rfl
    | cons p r =>
      exfalso
      have hh : Maps.has (.map (p :: r) : DataW Value) p.1 = true := List.any_eq_true.2 ⟨p, by simp, WideAt.sameKey_self (hkl p (by simp))⟩
      obtain ⟨k, hk, e⟩ := h.keys p.1 hh
      have h1 := h.has k hk
      rw [← e, hh, h0 k hk] at h1
      cases h1
theorem MapAt.len {w : World} {b : Nat} {F : Nat → Option Value} {t e : TypeId} (h : MapAt w b F) (ht : Tryz.prog.underlying t = some (.map 54 e)) :
    ∃ n : Nat, (n = 0 ↔ ∀ k, k < 31 → F k = none) ∧ ∀ ty, (Builtin.len_ #[t] ty #[.map (some b)]).run Tryz.prog w = .ok (.int .i64 (n : Int)) w := by
  obtain ⟨D, h, hR⟩ := h
  exact ⟨Maps.size D, reads_size hR (h.entries keyed), fun ty => h.len ht ty⟩
end Wk
set_option maxRecDepth 100000 in
set_option maxHeartbeats 2000000 in
theorem wkDone_nil (w : World) : Calls Tryz.prog 23 #[.pointer none] w fun e w' => e = .returned (.tuple #[.slice none 0 0, .bool false]) ∧ Below w.heap.size w w' := by
  go_enter Tryz.func23, Tryz.ntmps23
  go_wp2
  go_ret2
  exact ⟨rfl, Below.refl _ _⟩
set_option maxRecDepth 100000 in
set_option maxHeartbeats 2000000 in
theorem wkDone_open {w W : World} {r rt mw ms : Nat} {A : Option Addr} {c : Nat} {l : List Om.Pr} {root : List UInt8} {S : Wk.St} (h : Wk.WAt w W r rt mw ms A c l root S) {k : Nat} (hk : k < 31) {x : List UInt8} (hS : S.W k = some x) :
    Calls Tryz.prog 23 #[.pointer (some ⟨r, 0, none⟩)] W fun e w' => e = .returned (.tuple #[.slice none 0 0, .bool false]) ∧ Below W.heap.size W w' := by
  obtain ⟨c0, c1, -⟩ := h.cell
  obtain ⟨n, hn, hlen⟩ := h.wanted.len (t := 106) (e := 36) (by kernel_rfl)
  have hn0 : (n : Int) > 0 := by
    have : n ≠ 0 := fun e => by
      have := hn.1 e k hk
      rw [hS] at this
      cases this
    omega
  have hn1 : ¬ (n : Int) ≤ 0 := by omega
  clear hn h hS
  go_enter Tryz.func23, Tryz.ntmps23
  go_wp2
  go_ret2
  exact ⟨rfl, Below.refl _ _⟩
set_option maxRecDepth 100000 in
set_option maxHeartbeats 2000000 in
theorem wkDone_wide {w W : World} (G : Tr.Gd w) {r rt mw ms : Nat} {A : Option Addr} {c : Nat} {l : List Om.Pr} {root : List UInt8} {S : Wk.St} (h : Wk.WAt w W r rt mw ms A c l root S) (hG : Wk.Good S) (hS : ∀ k, k < 31 → S.W k = none) (h48 : 48 < (Wk.catS l S 16).length) :
    Calls Tryz.prog 23 #[.pointer (some ⟨r, 0, none⟩)] W fun e w' => e = .returned (.tuple #[.slice none 0 0, .bool false]) ∧ Below W.heap.size W w' := by
  obtain ⟨c0, c1, -⟩ := h.cell
  obtain ⟨n, hn, hlen⟩ := h.wanted.len (t := 106) (e := 36) (by kernel_rfl)
  have hn2 : n = 0 := hn.2 fun k hk => by rw [hS k hk]; rfl
  subst hn2
  simp only [Int.natCast_zero] at hlen
  have hfit := Wk.FitS.of h.ow.tree.fit hG
  have PA : Hid (∀ (wx : World) (i : Nat), Below W.heap.size W wx → i < 16 → Calls Tryz.prog 66 #[.pointer (some ⟨r, 0, none⟩), .int .i64 (i : Int)] wx fun e w' => ∃ B q, e = .returned (.slice B (Wk.partOf l S i).length q) ∧ Om.Row w' wx.heap.size B q (Wk.partOf l S i) ∧ Below wx.heap.size wx w') := fun wx i hb hi => wkPairs_any G (h.step hb) hG hi
  have HCL : Hid (∀ i, i ≤ 16 → (Wk.catS l S i).length ≤ 768) := fun i hi => by have := Wk.catS_length hfit i hi; omega
  have HC : Hid (∀ i : Nat, Wk.catS l S (i + 1) = Wk.catS l S i ++ Wk.partOf l S i) := fun _ => rfl
  have H48 := Lib.hid h48
  have HZ : Hid (Wk.catS l S 0 = []) := rfl
  generalize hCS : Wk.catS l S = CS at *
  generalize hPO : Wk.partOf l S = PO at *
  clear h48 hn h hS G hfit hCS hPO hG
  go_enter Tryz.func23, Tryz.ntmps23
  go_wp2
  go_loopw [4, 23] (fun s3 s5 wr => ∃ (i : Nat) (A : Option Addr) (c : Nat) (m : List Om.Pr), s5 = .int .i64 i ∧ i ≤ 16 ∧ s3 = .slice A m.length c ∧ Hid (m = CS i) ∧ Om.Row wr W.heap.size A c m ∧ Below W.heap.size W wr) (fun _ s5 _ => 16 - (intOf s5).toNat)
  case atStart => exact ⟨0, none, 0, [], rfl, by omega, rfl, HZ.out.symm, Om.Row.nil _ _, Below.refl _ _⟩
  case round =>
    obtain ⟨i, A, c, m, rfl, hi, rfl, hm, hrow, hb⟩ := hrel
    have HRW := Lib.hid hrow
    have HB := Lib.hid hb
    clear hrow hb
    by_cases hlt : i < 16
    · have hii : (i : Int) < 16 := by omega
      have hsuc : IntKind.i64.wrap ((i : Int) + 1) = ((i + 1 : Nat) : Int) := by simp [IntKind.wrap, IntKind.bits, IntKind.signed]; omega
      have P1 := Lib.hid (PA.out wr i HB.out hlt)
      have hnext : CS (i + 1) = m ++ PO i := by rw [HC.out i, hm.out]
      have HSUM : Hid (m.length + (PO i).length ≤ 1000000) := by
        have h1 := HCL.out (i + 1) hlt
        rw [hnext, List.length_append] at h1
        show _ ≤ _
        omega
      obtain ⟨t, ht⟩ : ∃ t, t = PO i := ⟨_, rfl⟩
      rw [← ht] at P1 hnext HSUM
      have HNX := Lib.hid hnext
      have HLT := Lib.hid hlt
      clear hnext ht hlt hm
      go_wp2_with first
        | (go_at_call 66; refine P1.out.mono ?_; rintro e w2 ⟨B2, q2, rfl, r2, k2⟩; have R2 := Lib.hid r2; have K2 := Lib.hid k2; clear r2 k2)
        | (at_builtin; refine Om.wp_cat rfl _ _ rfl rfl (HRW.out.low K2.out) rfl R2.out.listAt HSUM.out (Nat.le_trans HB.out.size K2.out.size) ?_; intro A' c' w4 hr4 hg4)
      have hlen2 : m.length + t.length = (m ++ t).length := by simp
      have K4 : Hid (Below W.heap.size W w4) := (HB.out.trans (K2.out.mono HB.out.size)).grown hg4 (Nat.le_trans HB.out.size K2.out.size) (fun q hq => ((HRW.out.low K2.out).blk hq).1)
      have HR4 := Lib.hid hr4
      clear hr4 hg4
      go_roundw
      case rel => exact ⟨i + 1, A', c', m ++ t, rfl, HLT.out, by rw [← hlen2], HNX.out.symm, HR4.out, K4.out⟩
      case measure => simp only [intOf]; have := HLT.out; omega
    · have hii : ¬ (i : Int) < 16 := by omega
      have hi16 : i = 16 := by omega
      subst hi16
      have h1 : ¬ (m.length : Int) ≤ 48 := by have := H48.out; rw [← hm.out] at this; omega
      have h2 : (m.length : Int) > 48 := by omega
      clear hm
      go_wp2
      go_ret2
      exact ⟨rfl, HB.out⟩
set_option maxRecDepth 100000 in
set_option maxHeartbeats 2000000 in
theorem wkDone_yes {w W : World} (G : Tr.Gd w) {r rt mw ms : Nat} {A : Option Addr} {c : Nat} {l : List Om.Pr} {root : List UInt8} {S : Wk.St} (h : Wk.WAt w W r rt mw ms A c l root S) (hG : Wk.Good S) (hS : ∀ k, k < 31 → S.W k = none) (h48 : (Wk.catS l S 16).length ≤ 48) :
    Calls Tryz.prog 23 #[.pointer (some ⟨r, 0, none⟩)] W fun e w' => ∃ B q, e = .returned (.tuple #[.slice B (Wk.out l S).length q, .bool true]) ∧ Om.listAt w' B (Wk.out l S) ∧ Below W.heap.size W w' := by
  obtain ⟨c0, c1, -⟩ := h.cell
  obtain ⟨n, hn, hlen⟩ := h.wanted.len (t := 106) (e := 36) (by kernel_rfl)
  have hn2 : n = 0 := hn.2 fun k hk => by rw [hS k hk]; rfl
  subst hn2
  simp only [Int.natCast_zero] at hlen
  have hfit := Wk.FitS.of h.ow.tree.fit hG
  have PA : Hid (∀ (wx : World) (i : Nat), Below W.heap.size W wx → i < 16 → Calls Tryz.prog 66 #[.pointer (some ⟨r, 0, none⟩), .int .i64 (i : Int)] wx fun e w' => ∃ B q, e = .returned (.slice B (Wk.partOf l S i).length q) ∧ Om.Row w' wx.heap.size B q (Wk.partOf l S i) ∧ Below wx.heap.size wx w') := fun wx i hb hi => wkPairs_any G (h.step hb) hG hi
  have HCL : Hid (∀ i, i ≤ 16 → (Wk.catS l S i).length ≤ 768) := fun i hi => by have := Wk.catS_length hfit i hi; omega
  have HC : Hid (∀ i : Nat, Wk.catS l S (i + 1) = Wk.catS l S i ++ Wk.partOf l S i) := fun _ => rfl
  have H48 := Lib.hid h48
  have HZ : Hid (Wk.catS l S 0 = []) := rfl
  have HLE : Hid ((Wk.out l S).length = (Wk.catS l S 16).length) := (Wk.out_perm hfit).length_eq.symm
  have SO : Hid (∀ (wx : World) (A : Option Addr) (c : Nat), Om.Row wx W.heap.size A c (Wk.catS l S 16) → Below W.heap.size W wx → Calls Tryz.prog 67 #[.slice A (Wk.catS l S 16).length c, .func (.func 68) #[] #[]] wx fun e w' => e = .returned (.tuple #[]) ∧ Om.listAt w' A (Wk.out l S) ∧ Below W.heap.size wx w') := fun wx A c h hb =>
    wkPSort_any h hb.size (Wk.out_rises hfit) (Wk.out_perm hfit) (by omega)
  generalize hOU : Wk.out l S = OU at *
  generalize hCS : Wk.catS l S = CS at *
  generalize hPO : Wk.partOf l S = PO at *
  clear hOU h48 hn h hS G hfit hCS hPO hG
  go_enter Tryz.func23, Tryz.ntmps23
  go_wp2
  go_loopw [4, 23] (fun s3 s5 wr => ∃ (i : Nat) (A : Option Addr) (c : Nat) (m : List Om.Pr), s5 = .int .i64 i ∧ i ≤ 16 ∧ s3 = .slice A m.length c ∧ Hid (m = CS i) ∧ Om.Row wr W.heap.size A c m ∧ Below W.heap.size W wr) (fun _ s5 _ => 16 - (intOf s5).toNat)
  case atStart => exact ⟨0, none, 0, [], rfl, by omega, rfl, HZ.out.symm, Om.Row.nil _ _, Below.refl _ _⟩
  case round =>
    obtain ⟨i, A, c, m, rfl, hi, rfl, hm, hrow, hb⟩ := hrel
    have HRW := Lib.hid hrow
    have HB := Lib.hid hb
    clear hrow hb
    by_cases hlt : i < 16
    · have hii : (i : Int) < 16 := by omega
      have hsuc : IntKind.i64.wrap ((i : Int) + 1) = ((i + 1 : Nat) : Int) := by simp [IntKind.wrap, IntKind.bits, IntKind.signed]; omega
      have P1 := Lib.hid (PA.out wr i HB.out hlt)
      have hnext : CS (i + 1) = m ++ PO i := by rw [HC.out i, hm.out]
      have HSUM : Hid (m.length + (PO i).length ≤ 1000000) := by
        have h1 := HCL.out (i + 1) hlt
        rw [hnext, List.length_append] at h1
        show _ ≤ _
        omega
      obtain ⟨t, ht⟩ : ∃ t, t = PO i := ⟨_, rfl⟩
      rw [← ht] at P1 hnext HSUM
      have HNX := Lib.hid hnext
      have HLT := Lib.hid hlt
      clear hnext ht hlt hm
      go_wp2_with first
        | (go_at_call 66; refine P1.out.mono ?_; rintro e w2 ⟨B2, q2, rfl, r2, k2⟩; have R2 := Lib.hid r2; have K2 := Lib.hid k2; clear r2 k2)
        | (at_builtin; refine Om.wp_cat rfl _ _ rfl rfl (HRW.out.low K2.out) rfl R2.out.listAt HSUM.out (Nat.le_trans HB.out.size K2.out.size) ?_; intro A' c' w4 hr4 hg4)
      have hlen2 : m.length + t.length = (m ++ t).length := by simp
      have K4 : Hid (Below W.heap.size W w4) := (HB.out.trans (K2.out.mono HB.out.size)).grown hg4 (Nat.le_trans HB.out.size K2.out.size) (fun q hq => ((HRW.out.low K2.out).blk hq).1)
      have HR4 := Lib.hid hr4
      clear hr4 hg4
      go_roundw
      case rel => exact ⟨i + 1, A', c', m ++ t, rfl, HLT.out, by rw [← hlen2], HNX.out.symm, HR4.out, K4.out⟩
      case measure => simp only [intOf]; have := HLT.out; omega
    · have hii : ¬ (i : Int) < 16 := by omega
      have hi16 : i = 16 := by omega
      subst hi16
      have S1 := Lib.hid (SO.out wr A c (by rw [← hm.out]; exact HRW.out) HB.out)
      have hml : OU.length = m.length := by rw [hm.out]; exact HLE.out
      rw [← hm.out] at S1
      have h1 : (m.length : Int) ≤ 48 := by have := H48.out; rw [← hm.out] at this; omega
      have h2 : ¬ (m.length : Int) > 48 := by omega
      clear hm hi HLE
      go_wp2_with (go_at_call 67; refine S1.out.mono ?_; rintro e w2 ⟨rfl, q1, q2⟩)
      go_ret2
      exact ⟨A, c, by rw [hml]; rfl, q1, HB.out.trans q2⟩
end Go.Proofs.YtiehcplepneajaaGreatDoor

/-
  walk's Root: the root that is wanted; nil too.
-/
namespace Go.Proofs.YtiehcplepneajaaGreatDoor
open Go.RowKit
set_option maxRecDepth 100000 in
set_option maxHeartbeats 2000000 in
theorem wkRoot_nil (w : World) : Calls Tryz.prog 26 #[.pointer none] w fun e w' => e = .returned (.agg (Lib.byteCells Tr.zeros).toArray) ∧ Below w.heap.size w w' := by
  have HR := Lib.hid (Sm.heap_row32 w)
  have HB : Hid (Below w.heap.size w (w.alloc (.cells (Sm.rowB 32 []) 36))) := (Below.refl _ w).alloc (Nat.le_refl _) _
  have hz : (Sm.rowB 32 []).size = 32 := Sm.rowB_size (by simp)
  go_enter Tryz.func26, Tryz.ntmps26
  go_wp2_with first
    | (refine wpList_store_row rfl 36 (.tmp 2) (.tmp 5) rfl w.heap.size (Sm.rowB 32 []) rfl rfl 36 _ (by exact HR.out) (Sm.infoHash hz) rfl (Sm.bytes_one Tr.zeros) ?_)
  exact bodyPost_ret (v := .agg (Sm.rowB 32 [])) (results_cell_row rfl _ _ w.heap.size 36 _ (0, 0) _ rfl (setRow_heap _ w.heap.size _ _ _ _ HR.out) Tryz.underlying36 rfl (Sm.infoHash hz)) rfl ⟨rfl, Sm.below_setRow HB.out (Nat.le_refl _) _⟩
set_option maxRecDepth 100000 in
set_option maxHeartbeats 2000000 in
theorem wkRoot_any {w W : World} {r rt mw ms : Nat} {A : Option Addr} {c : Nat} {l : List Om.Pr} {root : List UInt8} {S : Wk.St} (h : Wk.WAt w W r rt mw ms A c l root S) :
    Calls Tryz.prog 26 #[.pointer (some ⟨r, 0, none⟩)] W fun e w' => e = .returned (.agg (Lib.byteCells root).toArray) ∧ Below W.heap.size W w' := by
  have HR := Lib.hid (Sm.heap_row32 W)
  have HB : Hid (Below W.heap.size W (W.alloc (.cells (Sm.rowB 32 []) 36))) := (Below.refl _ W).alloc (Nat.le_refl _) _
  have hz := Tr.size32 h.len
  have hz32 := Tr.zero32 h.len
  have hone := Sm.bytes_one root
  have RA := Lib.hid (h.step HB.out).rootAt
  obtain ⟨cl, hcl⟩ : ∃ c, c = Lib.byteCells root := ⟨_, rfl⟩
  have hil : (Tryz.prog.info? 36).map (·.size) = some cl.length := by
    rw [hcl, show (Lib.byteCells root).length = 32 by rw [Lib.byteCells_length, h.len]]
    kernel_rfl
  rw [← hcl] at hz hz32 hone RA ⊢
  clear h hcl
  go_enter Tryz.func26, Tryz.ntmps26
  go_upto_region 3 with (fail)
  change Code.wp _ _ _ _ (W.alloc (.cells (Sm.rowB 32 []) 36))
  generalize W.alloc (.cells (Sm.rowB 32 []) 36) = W1 at *
  go_wp2_with first
    | (with_reducible refine wpList_load_mid rfl 36 (.tmp 8) rfl r 1 rfl cl _ (by exact RA.out) Tryz.underlying36 rfl hil ?_)
    | (with_reducible refine wpList_store_row rfl 36 (.tmp 2) (.tmp 9) rfl W.heap.size cl.toArray rfl rfl 36 _ (by exact HR.out) (Sm.infoHash hz) hz32 hone ?_)
  exact bodyPost_ret (v := .agg cl.toArray) (results_cell_row rfl _ _ W.heap.size 36 _ (0, 0) _ rfl (setRow_heap _ W.heap.size _ _ _ _ HR.out) Tryz.underlying36 rfl (Sm.infoHash hz)) rfl ⟨rfl, Sm.below_setRow HB.out (Nat.le_refl _) _⟩
end Go.Proofs.YtiehcplepneajaaGreatDoor

/-
  walk's Texts: the base's, and those of the answers that fitted; nil too.
-/
namespace Go.Proofs.YtiehcplepneajaaGreatDoor
open Go.RowKit
set_option maxRecDepth 100000 in
set_option maxHeartbeats 2000000 in
theorem wkTexts_nil (w : World) : Calls Tryz.prog 28 #[.pointer none] w fun e w' => e = .returned (.slice none 0 0) ∧ Below w.heap.size w w' := by
  go_enter Tryz.func28, Tryz.ntmps28
  go_wp2
  go_ret
  exact ⟨rfl, Below.refl _ _⟩
namespace Wk
/-- The texts that were taken are no longer than texts may be. -/
def GoodT (S : St) : Prop := (∀ t ∈ S.T, t.length ≤ 281474976710656) ∧ S.T.length ≤ 900000
end Wk
set_option maxRecDepth 100000 in
set_option maxHeartbeats 2000000 in
theorem wkTexts_any {w W : World} (G : Tr.Gd w) {r rt mw ms : Nat} {A : Option Addr} {c : Nat} {l : List Om.Pr} {root : List UInt8} {S : Wk.St} (h : Wk.WAt w W r rt mw ms A c l root S) (hT : Wk.GoodT S) :
    Calls Tryz.prog 28 #[.pointer (some ⟨r, 0, none⟩)] W fun e w' => ∃ B q, e = .returned (.slice B (Tr.txl l ++ S.T.map Tr.tx).length q) ∧ Om.SRow w' W.heap.size B q (Tr.txl l ++ S.T.map Tr.tx) ∧ Below W.heap.size W w' := by
  obtain ⟨c0, -, -, c3⟩ := h.cell
  have TX : Hid (Calls Tryz.prog 51 #[.pointer (some ⟨rt, 0, none⟩)] W fun e w' => ∃ B q, e = .returned (.slice B (Tr.txl l).length q) ∧ Om.SRow w' W.heap.size B q (Tr.txl l) ∧ Below W.heap.size W w') := by
    have := h.ow.textsC G
    rw [Tr.txl_length]
    exact this
  have C3 : Hid (∀ wx : World, Below W.heap.size W wx → wx.cell? ⟨r, 35, none⟩ = some (.slice A (S.T.map Tr.tx).length c)) := fun wx k => (h.step k).cell.2.2.2
  have UR := Lib.hid h.texts
  have UL : Hid ((S.T.map Tr.tx).length ≤ 900000) := by show _ ≤ _; rw [List.length_map]; exact hT.2
  have US : Hid (∀ k (hk : k < (S.T.map Tr.tx).length), (S.T.map Tr.tx)[k].size ≤ 281474976710656) := fun k hk => by
    rw [List.getElem_map, Tr.tx_size]
    exact hT.1 _ (List.getElem_mem _)
  have HL31 := Lib.hid (Tr.txl_length l)
  generalize S.T.map Tr.tx = U at *
  generalize Tr.txl l = L at *
  clear h hT G c3
  go_enter Tryz.func28, Tryz.ntmps28
  go_wp2_with first
    | (go_at_call 51; refine TX.out.mono ?_; rintro e w1 ⟨B1, q1, rfl, hr1, k1⟩; have R1 := Lib.hid hr1; have K1 := Lib.hid k1; have c4 := C3.out _ k1; clear hr1 k1)
  go_loopw [3, 18] (fun s3 s7 wr => ∃ (k : Nat) (B : Option Addr) (q : Nat) (t : List ByteArray), s7 = .int .i64 k ∧ s3 = .slice B t.length q ∧ k ≤ U.length ∧ Hid (t = L ++ U.take k) ∧ Om.SRow wr W.heap.size B q t ∧ Below W.heap.size W wr) (fun _ s7 _ => U.length - (intOf s7).toNat)
  case atStart => exact ⟨0, B1, q1, L, rfl, rfl, by omega, by show _ = _; rw [List.take_zero, List.append_nil], R1.out, K1.out⟩
  case round =>
    obtain ⟨k, B, q, t, rfl, rfl, hk, hm, hrow, hb⟩ := hrel
    have HRW := Lib.hid hrow
    have HB := Lib.hid hb
    clear hrow hb
    by_cases hlt : k < U.length
    · have hki : (k : Int) < (U.length : Int) := by omega
      have hsuc : IntKind.i64.wrap ((k : Int) + 1) = ((k + 1 : Nat) : Int) := by have := UL.out; simp [IntKind.wrap, IntKind.bits, IntKind.signed]; omega
      obtain ⟨g, hA, hg, hcell⟩ := UR.out.get hlt
      have hcw := (HB.out.cell (p := ⟨g, k, none⟩) hg).trans hcell
      have hxs := US.out k hlt
      have hst : L ++ U.take (k + 1) = t ++ [U[k]] := by
        rw [← List.take_append_getElem hlt, hm.out, List.append_assoc]
      have HML : Hid (t.length ≤ 999999) := by
        show _ ≤ _
        rw [hm.out, List.length_append, HL31.out, List.length_take]
        have := UL.out
        omega
      generalize U[k] = x at hcw hxs hst hcell
      have CL := Lib.hid (fun wx => strClone_any x wx hxs)
      have HST := Lib.hid hst
      have HLT := Lib.hid hlt
      have hub : (U.length : Int) ≤ 900000 := by have := UL.out; omega
      rw [hA]
      clear hst hm hlt hcell hxs hA hg
      go_wp2_with first
        | (go_at_call 70; refine (CL.out _).mono ?_; rintro e w4 ⟨rfl, k4⟩; have K4 : Hid (Below wr.heap.size wr (w4.alloc (.cells #[.string x] 9))) := k4.alloc k4.size _; clear k4)
        | (at_builtin; refine Om.wp_text rfl _ _ rfl rfl (HRW.out.low K4.out) x rfl (heap_alloc_new _ _) (by have := HML.out; omega) (Nat.le_trans HB.out.size K4.out.size) ?_; intro A' c' w3 hr3 hg3)
      have hsl : t.length + 1 = (t ++ [x]).length := by simp
      have K3 : Hid (Below W.heap.size W w3) := (HB.out.trans (K4.out.mono HB.out.size)).grown hg3 (Nat.le_trans HB.out.size K4.out.size) (fun q hq => ((HRW.out.low K4.out).blk hq).1)
      have HR3 := Lib.hid hr3
      clear hr3 hg3
      go_roundw
      case rel => exact ⟨k + 1, A', c', t ++ [x], rfl, by rw [← hsl], HLT.out, HST.out.symm, HR3.out, K3.out⟩
      case measure => simp only [intOf]; have := HLT.out; omega
    · have hki : ¬ (k : Int) < (U.length : Int) := by omega
      have hke : k = U.length := by omega
      have hm' := hm.out
      rw [hke, List.take_length] at hm'
      have HMM := Lib.hid hm'
      clear hm hm'
      go_wp2
      go_ret
      exact ⟨B, q, by rw [show L.length + U.length = t.length by rw [HMM.out, List.length_append]]; rfl, by rw [← HMM.out]; exact HRW.out, HB.out⟩
end Go.Proofs.YtiehcplepneajaaGreatDoor

/-
  walk's New: a walk from a base to a root.
-/
namespace Go.Proofs.YtiehcplepneajaaGreatDoor
open Go.RowKit
namespace Wk
theorem built_walk {x : List UInt8} (hx : x.length = 32) (rt mw ms : Nat) : Tryz.prog.built 109 [(0, .pointer (some ⟨rt, 0, none⟩)), (1, .agg (Lib.byteCells x).toArray), (2, .map (some mw)), (3, .map (some ms))] = some (cellsW rt mw ms x none 0 0).toArray :=
  match x, hx with
  | [a0, a1, a2, a3, a4, a5, a6, a7, a8, a9, a10, a11, a12, a13, a14, a15, a16, a17, a18, a19, a20, a21, a22, a23, a24, a25, a26, a27, a28, a29, a30, a31], _ => by kernel_rfl
theorem plc_zero : plc 0 = (0, 0) := rfl
/-- A walk just made. -/
theorem WAt.new {w w2 : World} {rt : Nat} {l : List Om.Pr} {x : List UInt8} (hx : x.length = 32) (o : Tr.Ow w w2 rt l) :
    WAt w (((w2.alloc (.map #[] 0)).alloc (.map #[] 0)).alloc (.cells (cellsW rt w2.heap.size (w2.heap.size + 1) x none 0 0).toArray 109)) (w2.heap.size + 2) rt w2.heap.size (w2.heap.size + 1) none 0 l x ⟨fun _ => none, fun _ => none, []⟩ ∧
      Below w.heap.size w (((w2.alloc (.map #[] 0)).alloc (.map #[] 0)).alloc (.cells (cellsW rt w2.heap.size (w2.heap.size + 1) x none 0 0).toArray 109)) := by
  have k1 : Below w2.heap.size w2 (w2.alloc (.map #[] 0)) := (Below.refl _ w2).alloc (Nat.le_refl _) _
  have m1 : MapAt (w2.alloc (.map #[] 0)) w2.heap.size (fun _ => none) := MapAt.made w2
  have s1 : (w2.alloc (.map #[] 0)).heap.size = w2.heap.size + 1 := by simp
  have m2 : Dk.MapAt Tryz.prog 3 ((w2.alloc (.map #[] 0)).alloc (.map #[] 0)) (w2.heap.size + 1) 16 (fun _ => none) := by
    rw [← s1]
    exact Dk.MapAt.made _
  generalize w2.alloc (.map #[] 0) = w3 at *
  have k2 : Below w3.heap.size w3 (w3.alloc (.map #[] 0)) := (Below.refl _ w3).alloc (Nat.le_refl _) _
  have s2 : (w3.alloc (.map #[] 0)).heap.size = w2.heap.size + 2 := by simp; omega
  have m3 := m1.block (k2.block _ m1.lt)
  generalize w3.alloc (.map #[] 0) = w4 at *
  have k3 : Below w4.heap.size w4 (w4.alloc (.cells (cellsW rt w2.heap.size (w2.heap.size + 1) x none 0 0).toArray 109)) := (Below.refl _ w4).alloc (Nat.le_refl _) _
  have g3 : (w4.alloc (.cells (cellsW rt w2.heap.size (w2.heap.size + 1) x none 0 0).toArray 109)).heap[w2.heap.size + 2]? = some (.cells (cellsW rt w2.heap.size (w2.heap.size + 1) x none 0 0).toArray 109 (0, 0)) := by
    rw [← s2]
    exact heap_alloc_new _ _
  have o2 := ((o.step k1).step k2).step k3
  have hle := o.bel.size
  refine ⟨⟨hx, g3, o2, (m3.block (k3.block _ m3.lt)), (fun k h e => by cases e), ⟨_, m2.block (k3.block _ m2.lt), (fun i hi => ⟨(fun _ => rfl), (fun m hm => by cases hm)⟩)⟩, Om.SRow.nil _ _, by omega, hle, by omega, by omega⟩, o2.bel⟩
end Wk
set_option maxRecDepth 100000 in
set_option maxHeartbeats 4000000 in
theorem wkNew_bad {w : World} {B : Option Addr} {l : List Om.Pr} (q : Nat) (cx : Array Value) {E : Nat} (hE : E ≠ 0) (HO : ∀ wx : World, Below w.heap.size w wx → Calls Tryz.prog 15 #[.slice B l.length q] wx fun e w' => e = .returned (.tuple #[.pointer none, .int .i64 (E : Int)]) ∧ Below wx.heap.size wx w') :
    Calls Tryz.prog 17 #[.slice B l.length q, .agg cx] w fun e w' => e = .returned (.tuple #[.pointer none, .int .i64 (E : Int)]) ∧ Below w.heap.size w w' := by
  have b1 : Below w.heap.size w (w.alloc (.cells cx 36)) := (Below.refl _ w).alloc (Nat.le_refl _) _
  have OF := Lib.hid (HO _ b1)
  have HB := Lib.hid b1
  have hz : ¬ (E : Int) = 0 := by omega
  clear HO b1 hE
  go_enter Tryz.func17, Tryz.ntmps17
  go_wp2_with first
    | (go_at_call 15; refine OF.out.mono ?_; rintro e w2 ⟨rfl, k2⟩; have K2 := Lib.hid k2; clear k2)
  go_ret2
  exact ⟨rfl, HB.out.trans (K2.out.mono HB.out.size)⟩
set_option maxRecDepth 100000 in
set_option maxHeartbeats 4000000 in
theorem wkNew_ok {w : World} (G : Tr.Gd w) {B : Option Addr} {l : List Om.Pr} (q : Nat) (hit : Om.listAt w B l) (hf : Tr.Fit l) {x : List UInt8} (hx : x.length = 32) :
    Calls Tryz.prog 17 #[.slice B l.length q, .agg (Lib.byteCells x).toArray] w fun e w' => ∃ r rt mw ms, e = .returned (.tuple #[.pointer (some ⟨r, 0, none⟩), .int .i64 0]) ∧ Wk.WAt w w' r rt mw ms none 0 l x (Wk.start l x) ∧ Below w.heap.size w w' := by
  have b1 : Below w.heap.size w (w.alloc (.cells (Lib.byteCells x).toArray 36)) := (Below.refl _ w).alloc (Nat.le_refl _) _
  have g1 : Hid ((w.alloc (.cells (Lib.byteCells x).toArray 36)).heap[w.heap.size]? = some (.cells (Lib.byteCells x).toArray 36 (0, 0))) := heap_alloc_new _ _
  have OF : Hid (Calls Tryz.prog 15 #[.slice B l.length q] (w.alloc (.cells (Lib.byteCells x).toArray 36)) fun e w' => ∃ rt, e = .returned (.tuple #[.pointer (some ⟨rt, 0, none⟩), .int .i64 0]) ∧ Tr.Ow w w' rt l ∧ Below w.heap.size w w' ∧ w'.heap[w.heap.size]? = some (.cells (Lib.byteCells x).toArray 36 (0, 0))) := by
    have g := G.low b1
    refine (tOf_ok g.H g.K g.sz q (hit.below b1) hf).mono ?_
    rintro e w' ⟨rt, rfl, hlow, ht, hb⟩
    have hb2 := Sm.low_low b1 (Nat.le_refl _) hb
    exact ⟨rt, rfl, ⟨ht, hb2, Nat.le_trans b1.size hlow⟩, hb2, (hb.block _ (Sm.lt_of g1.out)).trans g1.out⟩
  have hx32 := Tr.size32 hx
  have BW := Lib.hid (fun rt mw ms => Wk.built_walk hx rt mw ms)
  have NW := Lib.hid (fun w2 rt (o : Tr.Ow w w2 rt l) => Wk.WAt.new hx o)
  have HX := Lib.hid hx
  have AS : Hid (∀ (W : World) (r rt mw ms : Nat), Wk.WAt w W r rt mw ms none 0 l x ⟨fun _ => none, fun _ => none, []⟩ → Below w.heap.size w W → Calls Tryz.prog 55 #[.pointer (some ⟨r, 0, none⟩), .agg #[.int .i64 0, .int .i64 0], .agg (Lib.byteCells x).toArray] W fun e w' => e = .returned (.tuple #[]) ∧ Wk.WAt w w' r rt mw ms none 0 l x (Wk.start l x) ∧ Below w.heap.size w w') := fun W r rt mw ms h hb => by
    refine (wkAsk_any h (k := 0) (by decide) hx).mono ?_
    rintro e w' ⟨h1, h2, h3⟩
    exact ⟨h1, h2, h3.below hb⟩
  obtain ⟨cx, hcx⟩ : ∃ c, c = (Lib.byteCells x).toArray := ⟨_, rfl⟩
  rw [← hcx] at OF hx32 g1 AS BW ⊢
  clear b1 hit hf hx G hcx g1
  go_enter Tryz.func17, Tryz.ntmps17
  go_upto_region 4 with first
    | (go_at_call 15; refine OF.out.mono ?_; rintro e w2 ⟨rt, rfl, o, k2, G2⟩; have OO := Lib.hid o; have HG2 := Lib.hid G2; have K2 := Lib.hid k2; clear o k2 G2)
  have M1 : Hid (((w2.alloc (.map #[] 0)).alloc (.map #[] 0)).heap[w.heap.size]? = some (.cells cx 36 (0, 0))) := by
    show _ = _
    rw [Below.heap_alloc _ _ _ (by have := Sm.lt_of HG2.out; simp; omega), Below.heap_alloc _ _ _ (Sm.lt_of HG2.out)]
    exact HG2.out
  have hs1 : (w2.alloc (.map #[] 0)).heap.size = w2.heap.size + 1 := by simp
  have hs2 : ((w2.alloc (.map #[] 0)).alloc (.map #[] 0)).heap.size = w2.heap.size + 2 := by simp
  have hmm := @run_makeMap Tryz.prog
  go_upto_region 5 with first
    | (with_reducible refine wpList_load_row rfl 36 (.tmp 3) rfl w.heap.size rfl 36 cx (0, 0) _ (by exact HG2.out) Tryz.underlying36 rfl (Sm.infoHash hx32) ?_)
    | (with_reducible refine wpList_build_eq rfl 109 _ rfl (Wk.cellsW rt w2.heap.size (w2.heap.size + 1) x none 0 0).toArray (by with_unfolding_all exact BW.out rt w2.heap.size (w2.heap.size + 1)) ?_)
  obtain ⟨h5, b5⟩ := NW.out _ _ OO.out
  have M5 : Hid ((((w2.alloc (.map #[] 0)).alloc (.map #[] 0)).alloc (.cells (Wk.cellsW rt w2.heap.size (w2.heap.size + 1) x none 0 0).toArray 109)).heap[w.heap.size]? = some (.cells cx 36 (0, 0))) := by
    show _ = _
    rw [Below.heap_alloc _ _ _ (Sm.lt_of M1.out)]
    exact M1.out
  have AS5 := Lib.hid (AS.out _ _ _ _ _ h5 b5)
  clear h5 b5 AS NW M1
  generalize (((w2.alloc (.map #[] 0)).alloc (.map #[] 0)).alloc (.cells (Wk.cellsW rt w2.heap.size (w2.heap.size + 1) x none 0 0).toArray 109)) = W5 at *
  go_wp2_with first
    | (with_reducible refine wpList_load_row rfl 36 (.tmp 3) rfl w.heap.size rfl 36 cx (0, 0) _ (by exact M5.out) Tryz.underlying36 rfl (Sm.infoHash hx32) ?_)
    | (go_at_call 55; refine AS5.out.mono ?_; rintro e w6 ⟨rfl, h6, k6⟩; have H6 := Lib.hid h6; have K6 := Lib.hid k6; clear h6 k6)
  go_ret2
  exact ⟨_, _, _, _, rfl, H6.out, K6.out⟩
end Go.Proofs.YtiehcplepneajaaGreatDoor

/-
  The statements' answer: a tree's answer to what a walk asks for.
-/
namespace Go.Proofs.YtiehcplepneajaaGreatDoor
open Go.RowKit
namespace Wk
theorem ask_hard (cs : Array Value) : ¬ soft (.cells cs 54 (0, 0)) := fun h => by
  rcases h.1 with h | h
  · exact absurd h (by decide)
  · exact absurd h (by decide)
theorem bn_kids (m : List Om.Pr) {v i : Nat} (hv : v < 4) (hi : i < 2 ^ v) : Sm.sum (Tr.innerT (bn m (2 * pl v i + 1)) (bn m (2 * pl v i + 2))) = bn m (pl v i) := by
  have hp := Nat.pow_succ 2 v
  rw [← (pl_kid v i).1, ← (pl_kid v i).2, bn_pl m (by omega) (by omega), bn_pl m (by omega) (by omega), bn_pl m (by omega) hi, show 4 - v = (4 - (v + 1)) + 1 by omega, Tr.nd_succ]
theorem bn_leaf (m : List Om.Pr) {i : Nat} (hi : i < 16) : bn m (15 + i) = Sm.sum (pageT (Bu.part m i)) := by
  have := bn_pl m (v := 4) (i := i) (by decide) hi
  exact this
end Wk
set_option maxRecDepth 100000 in
set_option maxHeartbeats 8000000 in
theorem answer_node_yes {w W : World} (G : Tr.Gd w) {r rt mw ms : Nat} {A : Option Addr} {c : Nat} {l : List Om.Pr} {root : List UInt8} {S : Wk.St} (h : Wk.WAt w W r rt mw ms A c l root S) {r2 : Nat} {m : List Om.Pr} (ot : Tr.Ow w W r2 m) {v i : Nat} (hv : v < 4) (hi : i < 2 ^ v) (hS : S.W (Wk.pl v i) = some (Wk.bn m (Wk.pl v i))) (hT : S.T.length ≤ 1000000) :
    Calls Tryz.prog 32 #[.pointer (some ⟨r, 0, none⟩), .pointer (some ⟨r2, 0, none⟩), .agg #[.int .i64 (v : Int), .int .i64 (i : Int)]] W fun e w' => e = .returned (.bool true) ∧ (∃ A' c', Wk.WAt w w' r rt mw ms A' c' l root (Wk.node l S (Wk.pl v i) (Wk.bn m (2 * Wk.pl v i + 1)) (Wk.bn m (2 * Wk.pl v i + 2)))) ∧ Wk.Turn w W w' := by
  obtain ⟨N, hN⟩ : ∃ N, N = W.heap.size := ⟨_, rfl⟩
  obtain ⟨w2, hw2⟩ : ∃ w2, w2 = W.alloc (.cells #[.int .i64 (v : Int), .int .i64 (i : Int)] 54) := ⟨_, rfl⟩
  have b2 : Below W.heap.size W w2 := by rw [hw2]; exact (Below.refl _ W).alloc (Nat.le_refl _) _
  have g0 : w2.heap[N]? = some (.cells #[.int .i64 (v : Int), .int .i64 (i : Int)] 54 (0, 0)) := by rw [hw2, hN]; exact heap_alloc_new _ _
  have HB2 := Lib.hid b2
  have HG0 := Lib.hid g0
  have T2 : Hid (Wk.Turn w W w2) := .of_below b2
  have HC : Hid (∀ wx : World, Below w2.heap.size w2 wx → wx.cell? ⟨N, 0, none⟩ = some (.int .i64 (v : Int)) ∧ wx.cell? ⟨N, 1, none⟩ = some (.int .i64 (i : Int))) := fun wx hb =>
    ⟨(hb.cell (p := ⟨N, 0, none⟩) (Sm.lt_of g0)).trans (Sm.cells_of g0 0 _ rfl), (hb.cell (p := ⟨N, 1, none⟩) (Sm.lt_of g0)).trans (Sm.cells_of g0 1 _ rfl)⟩
  have hsum := Wk.bn_kids m hv hi
  have hi2 : i ≤ 8 := by
    have : 2 ^ v ≤ 2 ^ 3 := Nat.pow_le_pow_right (by decide) (by omega)
    omega
  have hkid := Wk.pl_kid v i
  have hp := Nat.pow_succ 2 v
  obtain ⟨a, ha⟩ : ∃ a, a = Wk.bn m (2 * Wk.pl v i + 1) := ⟨_, rfl⟩
  obtain ⟨b, hb⟩ : ∃ b, b = Wk.bn m (2 * Wk.pl v i + 2) := ⟨_, rfl⟩
  have hal : a.length = 32 := by rw [ha]; exact Wk.bn_length _ _
  have hbl : b.length = 32 := by rw [hb]; exact Wk.bn_length _ _
  obtain ⟨ca, hca⟩ : ∃ c, c = (Lib.byteCells a).toArray := ⟨_, rfl⟩
  obtain ⟨cb, hcb⟩ : ∃ c, c = (Lib.byteCells b).toArray := ⟨_, rfl⟩
  have sa : ca.size = 32 := by rw [hca]; exact Tr.size32 hal
  have sb : cb.size = 32 := by rw [hcb]; exact Tr.size32 hbl
  have oa : ca.all (·.oneCell') = true := by rw [hca]; exact Sm.bytes_one _
  have ob : cb.all (·.oneCell') = true := by rw [hcb]; exact Sm.bytes_one _
  obtain ⟨ka, hka⟩ : ∃ k, k = 2 * i := ⟨_, rfl⟩
  have NA : Hid (∀ wx : World, Below w2.heap.size w2 wx → Calls Tryz.prog 37 #[.pointer (some ⟨r2, 0, none⟩), .int .i64 ((v + 1 : Nat) : Int), .int .i64 (ka : Int)] wx fun e w' => e = .returned (.tuple #[.agg ca, .bool true]) ∧ Below wx.heap.size wx w') := fun wx k => by
    have := ((ot.step b2).step k).nodeC (level := v + 1) (i := ka) (by omega) (by omega)
    have e : Tr.lv m (v + 1) ka = a := by rw [ha, ← hkid.1, Wk.bn_pl m (by omega) (by omega), hka]; rfl
    rw [e] at this
    rw [hca]
    exact this
  have NB : Hid (∀ wx : World, Below w2.heap.size w2 wx → Calls Tryz.prog 37 #[.pointer (some ⟨r2, 0, none⟩), .int .i64 ((v + 1 : Nat) : Int), .int .i64 ((ka + 1 : Nat) : Int)] wx fun e w' => e = .returned (.tuple #[.agg cb, .bool true]) ∧ Below wx.heap.size wx w') := fun wx k => by
    have := ((ot.step b2).step k).nodeC (level := v + 1) (i := ka + 1) (by omega) (by omega)
    have e : Tr.lv m (v + 1) (ka + 1) = b := by rw [hb, ← hkid.2, Wk.bn_pl m (by omega) (by omega), hka]; rfl
    rw [e] at this
    rw [hcb]
    exact this
  rw [← ha, ← hb] at hsum ⊢
  have NN : Hid (∀ wx : World, Below w2.heap.size w2 wx → Calls Tryz.prog 29 #[.pointer (some ⟨r, 0, none⟩), .int .i64 (v : Int), .int .i64 (i : Int), .agg ca, .agg cb] wx fun e w' => e = .returned (.bool true) ∧ (∃ A' c', Wk.WAt w w' r rt mw ms A' c' l root (Wk.node l S (Wk.pl v i) a b)) ∧ Wk.Turn w wx w') := fun wx k => by
    rw [hca, hcb]
    exact wkNode_yes G ((h.step b2).step k) hv hi hal hbl (by rw [hS, hsum]) hT
  have hadd : IntKind.i64.wrap ((v : Int) + 1) = ((v + 1 : Nat) : Int) := by simp [IntKind.wrap, IntKind.bits, IntKind.signed]; omega
  have hmul : IntKind.i64.wrap (2 * (i : Int)) = (ka : Int) := by simp [IntKind.wrap, IntKind.bits, IntKind.signed]; omega
  have hmul1 : IntKind.i64.wrap ((ka : Int) + 1) = ((ka + 1 : Nat) : Int) := by simp [IntKind.wrap, IntKind.bits, IntKind.signed]; omega
  have hv4 : ¬ (v : Int) = 4 := by omega
  have hst : ∀ (wx : World) (c : Array Value), c.size = 32 → (storeCells ⟨wx.heap.size, 0, none⟩ ca.toList).run Tryz.prog (wx.alloc (.cells c 36)) = .ok () (wx.alloc (.cells ca 36)) := fun wx c hc =>
    run_storeCells_new (P := Tryz.prog) wx 36 c ca (Sm.infoHash sa) (by rw [sa]; exact hc) oa
  have hst2 : ∀ (wx : World) (c : Array Value), c.size = 32 → (storeCells ⟨wx.heap.size, 0, none⟩ cb.toList).run Tryz.prog (wx.alloc (.cells c 36)) = .ok () (wx.alloc (.cells cb 36)) := fun wx c hc =>
    run_storeCells_new (P := Tryz.prog) wx 36 c cb (Sm.infoHash sb) (by rw [sb]; exact hc) ob
  have x2 := HC.out w2 (Below.refl _ _)
  obtain ⟨y0, y1⟩ := x2
  clear h ot G b2 g0 ha hb hca hcb hka hp hkid hsum hi2 hal hbl hv hi hS hT
  go_enter Tryz.func32, Tryz.ntmps32
  go_upto_region 1 with (fail)
  change Code.wp _ _ _ _ (W.alloc (.cells #[.int .i64 (v : Int), .int .i64 (i : Int)] 54))
  rw [← hw2, ← hN]
  clear hw2 hN
  go_upto_region 4 with first
    | (go_at_call 37; refine (NA.out _ (Below.refl _ _)).mono ?_; clear NA; rintro e w3 ⟨rfl, k3⟩; have hst3 := hst w3; have G3 := Lib.hid (heap_alloc_new w3 (.cells ca 36)); have B3 : Hid (Below w2.heap.size w2 (w3.alloc (.cells ca 36))) := k3.alloc k3.size _; have z := HC.out _ B3.out; obtain ⟨z0, z1⟩ := z; clear k3)
  clear hst3 hst
  generalize w3.alloc (.cells ca 36) = w4 at *
  generalize w3.heap.size = M3 at *
  go_upto_region 5 with first
    | (go_at_call 37; refine (NB.out _ B3.out).mono ?_; clear NB; rintro e w5 ⟨rfl, k5⟩; have hst5 := hst2 w5; have G5 := Lib.hid (heap_alloc_new w5 (.cells cb 36)); have k6 : Below w4.heap.size w4 (w5.alloc (.cells cb 36)) := k5.alloc k5.size _; have G3b := Lib.hid ((k6.block _ (Sm.lt_of G3.out)).trans G3.out); have B5 : Hid (Below w2.heap.size w2 (w5.alloc (.cells cb 36))) := B3.out.trans (k6.mono B3.out.size); have u := HC.out _ B5.out; obtain ⟨u0, u1⟩ := u; clear k5 k6)
  clear hst5 hst2
  generalize w5.alloc (.cells cb 36) = w6 at *
  generalize w5.heap.size = M5 at *
  go_wp2_with first
    | (with_reducible refine wpList_load_row rfl 36 (.tmp 7) rfl M3 rfl 36 ca (0, 0) _ (by exact G3b.out) Tryz.underlying36 rfl (Sm.infoHash sa) ?_)
    | (with_reducible refine wpList_load_row rfl 36 (.tmp 9) rfl M5 rfl 36 cb (0, 0) _ (by exact G5.out) Tryz.underlying36 rfl (Sm.infoHash sb) ?_)
    | (go_at_call 29; refine (NN.out _ B5.out).mono ?_; rintro e w7 ⟨rfl, ⟨A7, c7, h7⟩, t7⟩; have H7 := Lib.hid h7; have T7 := Lib.hid ((T2.out.step B5.out).trans t7); clear h7 t7)
  go_ret
  exact ⟨rfl, ⟨A7, c7, H7.out⟩, T7.out⟩
set_option maxRecDepth 100000 in
set_option maxHeartbeats 8000000 in
theorem answer_node_no {w W : World} (G : Tr.Gd w) {r rt mw ms : Nat} {A : Option Addr} {c : Nat} {l : List Om.Pr} {root : List UInt8} {S : Wk.St} (h : Wk.WAt w W r rt mw ms A c l root S) {r2 : Nat} {m : List Om.Pr} (ot : Tr.Ow w W r2 m) {v i : Nat} (hv : v < 4) (hi : i < 2 ^ v) (hno : S.W (Wk.pl v i) ≠ some (Wk.bn m (Wk.pl v i))) :
    Calls Tryz.prog 32 #[.pointer (some ⟨r, 0, none⟩), .pointer (some ⟨r2, 0, none⟩), .agg #[.int .i64 (v : Int), .int .i64 (i : Int)]] W fun e w' => e = .returned (.bool false) ∧ Below W.heap.size W w' := by
  obtain ⟨N, hN⟩ : ∃ N, N = W.heap.size := ⟨_, rfl⟩
  obtain ⟨w2, hw2⟩ : ∃ w2, w2 = W.alloc (.cells #[.int .i64 (v : Int), .int .i64 (i : Int)] 54) := ⟨_, rfl⟩
  have b2 : Below W.heap.size W w2 := by rw [hw2]; exact (Below.refl _ W).alloc (Nat.le_refl _) _
  have g0 : w2.heap[N]? = some (.cells #[.int .i64 (v : Int), .int .i64 (i : Int)] 54 (0, 0)) := by rw [hw2, hN]; exact heap_alloc_new _ _
  have HB2 := Lib.hid b2
  have HG0 := Lib.hid g0
  have T2 : Hid (Wk.Turn w W w2) := .of_below b2
  have HC : Hid (∀ wx : World, Below w2.heap.size w2 wx → wx.cell? ⟨N, 0, none⟩ = some (.int .i64 (v : Int)) ∧ wx.cell? ⟨N, 1, none⟩ = some (.int .i64 (i : Int))) := fun wx hb =>
    ⟨(hb.cell (p := ⟨N, 0, none⟩) (Sm.lt_of g0)).trans (Sm.cells_of g0 0 _ rfl), (hb.cell (p := ⟨N, 1, none⟩) (Sm.lt_of g0)).trans (Sm.cells_of g0 1 _ rfl)⟩
  have hsum := Wk.bn_kids m hv hi
  have hi2 : i ≤ 8 := by
    have : 2 ^ v ≤ 2 ^ 3 := Nat.pow_le_pow_right (by decide) (by omega)
    omega
  have hkid := Wk.pl_kid v i
  have hp := Nat.pow_succ 2 v
  obtain ⟨a, ha⟩ : ∃ a, a = Wk.bn m (2 * Wk.pl v i + 1) := ⟨_, rfl⟩
  obtain ⟨b, hb⟩ : ∃ b, b = Wk.bn m (2 * Wk.pl v i + 2) := ⟨_, rfl⟩
  have hal : a.length = 32 := by rw [ha]; exact Wk.bn_length _ _
  have hbl : b.length = 32 := by rw [hb]; exact Wk.bn_length _ _
  obtain ⟨ca, hca⟩ : ∃ c, c = (Lib.byteCells a).toArray := ⟨_, rfl⟩
  obtain ⟨cb, hcb⟩ : ∃ c, c = (Lib.byteCells b).toArray := ⟨_, rfl⟩
  have sa : ca.size = 32 := by rw [hca]; exact Tr.size32 hal
  have sb : cb.size = 32 := by rw [hcb]; exact Tr.size32 hbl
  have oa : ca.all (·.oneCell') = true := by rw [hca]; exact Sm.bytes_one _
  have ob : cb.all (·.oneCell') = true := by rw [hcb]; exact Sm.bytes_one _
  obtain ⟨ka, hka⟩ : ∃ k, k = 2 * i := ⟨_, rfl⟩
  have NA : Hid (∀ wx : World, Below w2.heap.size w2 wx → Calls Tryz.prog 37 #[.pointer (some ⟨r2, 0, none⟩), .int .i64 ((v + 1 : Nat) : Int), .int .i64 (ka : Int)] wx fun e w' => e = .returned (.tuple #[.agg ca, .bool true]) ∧ Below wx.heap.size wx w') := fun wx k => by
    have := ((ot.step b2).step k).nodeC (level := v + 1) (i := ka) (by omega) (by omega)
    have e : Tr.lv m (v + 1) ka = a := by rw [ha, ← hkid.1, Wk.bn_pl m (by omega) (by omega), hka]; rfl
    rw [e] at this
    rw [hca]
    exact this
  have NB : Hid (∀ wx : World, Below w2.heap.size w2 wx → Calls Tryz.prog 37 #[.pointer (some ⟨r2, 0, none⟩), .int .i64 ((v + 1 : Nat) : Int), .int .i64 ((ka + 1 : Nat) : Int)] wx fun e w' => e = .returned (.tuple #[.agg cb, .bool true]) ∧ Below wx.heap.size wx w') := fun wx k => by
    have := ((ot.step b2).step k).nodeC (level := v + 1) (i := ka + 1) (by omega) (by omega)
    have e : Tr.lv m (v + 1) (ka + 1) = b := by rw [hb, ← hkid.2, Wk.bn_pl m (by omega) (by omega), hka]; rfl
    rw [e] at this
    rw [hcb]
    exact this
  rw [← ha, ← hb] at hsum
  have NN : Hid (∀ wx : World, Below w2.heap.size w2 wx → Calls Tryz.prog 29 #[.pointer (some ⟨r, 0, none⟩), .int .i64 (v : Int), .int .i64 (i : Int), .agg ca, .agg cb] wx fun e w' => e = .returned (.bool false) ∧ Below wx.heap.size wx w') := fun wx k => by
    rw [hca, hcb]
    have hpl := Wk.plc_pl (v := v) (by omega) hi
    refine wkNode_no G ((h.step b2).step k) (n1 := (v : Int)) (n2 := (i : Int)) ?_ (by omega) hal hbl ?_
    · rw [← hpl]; exact Wk.plc_fits (Wk.pl_lev (by omega) hi).2.2
    · rw [← hpl, Wk.hit_plc S (Wk.pl_lev (by omega) hi).2.2, hsum]; exact hno
  have hadd : IntKind.i64.wrap ((v : Int) + 1) = ((v + 1 : Nat) : Int) := by simp [IntKind.wrap, IntKind.bits, IntKind.signed]; omega
  have hmul : IntKind.i64.wrap (2 * (i : Int)) = (ka : Int) := by simp [IntKind.wrap, IntKind.bits, IntKind.signed]; omega
  have hmul1 : IntKind.i64.wrap ((ka : Int) + 1) = ((ka + 1 : Nat) : Int) := by simp [IntKind.wrap, IntKind.bits, IntKind.signed]; omega
  have hv4 : ¬ (v : Int) = 4 := by omega
  have hst : ∀ (wx : World) (c : Array Value), c.size = 32 → (storeCells ⟨wx.heap.size, 0, none⟩ ca.toList).run Tryz.prog (wx.alloc (.cells c 36)) = .ok () (wx.alloc (.cells ca 36)) := fun wx c hc =>
    run_storeCells_new (P := Tryz.prog) wx 36 c ca (Sm.infoHash sa) (by rw [sa]; exact hc) oa
  have hst2 : ∀ (wx : World) (c : Array Value), c.size = 32 → (storeCells ⟨wx.heap.size, 0, none⟩ cb.toList).run Tryz.prog (wx.alloc (.cells c 36)) = .ok () (wx.alloc (.cells cb 36)) := fun wx c hc =>
    run_storeCells_new (P := Tryz.prog) wx 36 c cb (Sm.infoHash sb) (by rw [sb]; exact hc) ob
  have x2 := HC.out w2 (Below.refl _ _)
  obtain ⟨y0, y1⟩ := x2
  clear h ot G b2 g0 ha hb hca hcb hka hp hkid hsum hi2 hal hbl hv hi hno
  go_enter Tryz.func32, Tryz.ntmps32
  go_upto_region 1 with (fail)
  change Code.wp _ _ _ _ (W.alloc (.cells #[.int .i64 (v : Int), .int .i64 (i : Int)] 54))
  rw [← hw2, ← hN]
  clear hw2 hN
  go_upto_region 4 with first
    | (go_at_call 37; refine (NA.out _ (Below.refl _ _)).mono ?_; clear NA; rintro e w3 ⟨rfl, k3⟩; have hst3 := hst w3; have G3 := Lib.hid (heap_alloc_new w3 (.cells ca 36)); have B3 : Hid (Below w2.heap.size w2 (w3.alloc (.cells ca 36))) := k3.alloc k3.size _; have z := HC.out _ B3.out; obtain ⟨z0, z1⟩ := z; clear k3)
  clear hst3 hst
  generalize w3.alloc (.cells ca 36) = w4 at *
  generalize w3.heap.size = M3 at *
  go_upto_region 5 with first
    | (go_at_call 37; refine (NB.out _ B3.out).mono ?_; clear NB; rintro e w5 ⟨rfl, k5⟩; have hst5 := hst2 w5; have G5 := Lib.hid (heap_alloc_new w5 (.cells cb 36)); have k6 : Below w4.heap.size w4 (w5.alloc (.cells cb 36)) := k5.alloc k5.size _; have G3b := Lib.hid ((k6.block _ (Sm.lt_of G3.out)).trans G3.out); have B5 : Hid (Below w2.heap.size w2 (w5.alloc (.cells cb 36))) := B3.out.trans (k6.mono B3.out.size); have u := HC.out _ B5.out; obtain ⟨u0, u1⟩ := u; clear k5 k6)
  clear hst5 hst2
  generalize w5.alloc (.cells cb 36) = w6 at *
  generalize w5.heap.size = M5 at *
  go_wp2_with first
    | (with_reducible refine wpList_load_row rfl 36 (.tmp 7) rfl M3 rfl 36 ca (0, 0) _ (by exact G3b.out) Tryz.underlying36 rfl (Sm.infoHash sa) ?_)
    | (with_reducible refine wpList_load_row rfl 36 (.tmp 9) rfl M5 rfl 36 cb (0, 0) _ (by exact G5.out) Tryz.underlying36 rfl (Sm.infoHash sb) ?_)
    | (go_at_call 29; refine (NN.out _ B5.out).mono ?_; rintro e w7 ⟨rfl, k7⟩; have B7 : Hid (Below w2.heap.size w2 w7) := B5.out.trans (k7.mono B5.out.size); clear k7)
  go_ret
  exact ⟨rfl, HB2.out.trans (B7.out.mono HB2.out.size)⟩
set_option maxRecDepth 100000 in
set_option maxHeartbeats 8000000 in
theorem answer_page_yes {w W : World} (G : Tr.Gd w) {r rt mw ms : Nat} {A : Option Addr} {c : Nat} {l : List Om.Pr} {root : List UInt8} {S : Wk.St} (h : Wk.WAt w W r rt mw ms A c l root S) {r2 : Nat} {m : List Om.Pr} (ot : Tr.Ow w W r2 m) (hfit : Tr.Fit m) {i : Nat} (hi : i < 16) (hS : S.W (15 + i) = some (Wk.bn m (15 + i))) (hT : S.T.length ≤ 1000000) :
    Calls Tryz.prog 32 #[.pointer (some ⟨r, 0, none⟩), .pointer (some ⟨r2, 0, none⟩), .agg #[.int .i64 4, .int .i64 (i : Int)]] W fun e w' => e = .returned (.bool true) ∧ (∃ A' c', Wk.WAt w w' r rt mw ms A' c' l root (Wk.page S i (Bu.part m i))) ∧ Wk.Turn w W w' := by
  obtain ⟨N, hN⟩ : ∃ N, N = W.heap.size := ⟨_, rfl⟩
  obtain ⟨w2, hw2⟩ : ∃ w2, w2 = W.alloc (.cells #[.int .i64 4, .int .i64 (i : Int)] 54) := ⟨_, rfl⟩
  have b2 : Below W.heap.size W w2 := by rw [hw2]; exact (Below.refl _ W).alloc (Nat.le_refl _) _
  have g0 : w2.heap[N]? = some (.cells #[.int .i64 4, .int .i64 (i : Int)] 54 (0, 0)) := by rw [hw2, hN]; exact heap_alloc_new _ _
  have HB2 := Lib.hid b2
  have HG0 := Lib.hid g0
  have T2 : Hid (Wk.Turn w W w2) := .of_below b2
  have HC : Hid (∀ wx : World, Below w2.heap.size w2 wx → wx.cell? ⟨N, 0, none⟩ = some (.int .i64 4) ∧ wx.cell? ⟨N, 1, none⟩ = some (.int .i64 (i : Int))) := fun wx hb =>
    ⟨(hb.cell (p := ⟨N, 0, none⟩) (Sm.lt_of g0)).trans (Sm.cells_of g0 0 _ rfl), (hb.cell (p := ⟨N, 1, none⟩) (Sm.lt_of g0)).trans (Sm.cells_of g0 1 _ rfl)⟩
  have hp : Bu.pageE (i : Int) (Bu.part m i) = 0 := Bu.page_part hfit.may hfit.len (by omega)
  have hbn : Wk.bn m (15 + i) = Sm.sum (Wk.pageT (Bu.part m i)) := Wk.bn_leaf m hi
  have PA : Hid (∀ wx : World, Below w2.heap.size w2 wx → Calls Tryz.prog 60 #[.pointer (some ⟨r2, 0, none⟩), .int .i64 (i : Int)] wx fun e w' => ∃ B q, e = .returned (.slice B (Bu.part m i).length q) ∧ Om.Row w' wx.heap.size B q (Bu.part m i) ∧ Below wx.heap.size wx w') := fun wx k => ((ot.step b2).step k).pairsC hi
  have PG : Hid (∀ (wx : World) (B : Option Addr) (q M : Nat), Below w2.heap.size w2 wx → Om.Row wx M B q (Bu.part m i) → Calls Tryz.prog 30 #[.pointer (some ⟨r, 0, none⟩), .int .i64 (i : Int), .slice B (Bu.part m i).length q] wx fun e w' => e = .returned (.bool true) ∧ (∃ A' c', Wk.WAt w w' r rt mw ms A' c' l root (Wk.page S i (Bu.part m i))) ∧ Wk.Turn w wx w') := fun wx B q M k hr =>
    wkPage_yes G ((h.step b2).step k) q (fun W' t => (t.row hr).listAt) hp (by rw [hS, hbn]) hT
  obtain ⟨y0, y1⟩ := HC.out w2 (Below.refl _ _)
  obtain ⟨p, hpe⟩ : ∃ p, p = Bu.part m i := ⟨_, rfl⟩
  rw [← hpe] at PA PG ⊢
  clear h ot G b2 g0 hfit hp hbn hpe hi hS hT
  go_enter Tryz.func32, Tryz.ntmps32
  go_upto_region 1 with (fail)
  change Code.wp _ _ _ _ (W.alloc (.cells #[.int .i64 4, .int .i64 (i : Int)] 54))
  rw [← hw2, ← hN]
  clear hw2 hN
  go_upto_region 2 with (fail)
  refine wp_region_held_drew (S := fun w' => w'.heap[N]? = some (.cells #[.int .i64 4, .int .i64 (i : Int)] 54 (0, 0))) (by kernel_rfl) HG0.out (fun hHeld => ?_)
  obtain ⟨wz, hwz⟩ : ∃ x, x = w2.drew := ⟨_, rfl⟩
  have wzB : Hid (Below w2.heap.size w2 wz) := by rw [hwz]; exact (Below.refl _ _).drew
  rw [← hwz] at hHeld ⊢
  clear hwz
  refine wpAnyH_take (i := 0) (oi := ⟨some 14, _, _, _, _, _⟩) (v := .pointer (some ⟨r, 0, none⟩)) rfl (by kernel_rfl) (by kernel_rfl) (by kernel_rfl) (fun _ _ _ h => h) (Or.inl ⟨by rfl, ?_⟩) (by assumption) ?_
  · intro w hSw; (try dsimp only at hSw); go_simp
  simp only [Act.put, List.setIfInBounds_toArray, List.set_cons_zero, List.set_cons_succ]
  refine wpAnyH_take (i := 1) (oi := ⟨some 15, _, _, _, _, _⟩) (v := .pointer (some ⟨N, 1, none⟩)) rfl (by kernel_rfl) (by kernel_rfl) (by kernel_rfl) (fun _ _ _ h => h) (Or.inl ⟨by rfl, ?_⟩) (by assumption) ?_
  · intro w hSw; (try dsimp only at hSw); go_simp
  simp only [Act.put, List.setIfInBounds_toArray, List.set_cons_zero, List.set_cons_succ]
  refine wpAnyH_take (i := 2) (oi := ⟨some 16, _, _, _, _, _⟩) (v := .int .i64 (i : Int)) rfl (by kernel_rfl) (by kernel_rfl) (by kernel_rfl) (fun _ _ _ h => h) (Or.inl ⟨by rfl, ?_⟩) (by assumption) ?_
  · intro w hSw; (try dsimp only at hSw); have q1 := Sm.cells_of hSw 1 (.int .i64 (i : Int)) rfl; go_simp
  simp only [Act.put, List.setIfInBounds_toArray, List.set_cons_zero, List.set_cons_succ]
  refine wpAnyH_take (i := 3) (oi := ⟨some 17, _, _, _, _, _⟩) (v := .pointer (some ⟨r2, 0, none⟩)) rfl (by kernel_rfl) (by kernel_rfl) (by kernel_rfl) (fun _ _ _ h => h) (Or.inl ⟨by rfl, ?_⟩) (by assumption) ?_
  · intro w hSw; (try dsimp only at hSw); go_simp
  simp only [Act.put, List.setIfInBounds_toArray, List.set_cons_zero, List.set_cons_succ]
  refine wpAnyH_take (i := 4) (oi := ⟨some 18, _, _, _, _, _⟩) (v := .pointer (some ⟨N, 1, none⟩)) rfl (by kernel_rfl) (by kernel_rfl) (by kernel_rfl) (fun _ _ _ h => h) (Or.inl ⟨by rfl, ?_⟩) (by assumption) ?_
  · intro w hSw; (try dsimp only at hSw); go_simp
  simp only [Act.put, List.setIfInBounds_toArray, List.set_cons_zero, List.set_cons_succ]
  refine wpAnyH_take (i := 5) (oi := ⟨some 19, _, _, _, _, _⟩) (v := .int .i64 (i : Int)) rfl (by kernel_rfl) (by kernel_rfl) (by kernel_rfl) (fun _ _ _ h => h) (Or.inl ⟨by rfl, ?_⟩) (by assumption) ?_
  · intro w hSw; (try dsimp only at hSw); have q1 := Sm.cells_of hSw 1 (.int .i64 (i : Int)) rfl; go_simp
  simp only [Act.put, List.setIfInBounds_toArray, List.set_cons_zero, List.set_cons_succ]
  refine wpAnyH_ready (rs := [6]) (by kernel_rfl) (by simp) ?_
  refine (AllReadyH.cons (o := ⟨some 20, _, _, _, _, _⟩) rfl (fun K hK => ?_) AllReadyH.nil)
  go_simp
  refine (PA.out _ wzB.out).mono ?_
  rintro e w3 ⟨B, q, rfl, hr, kk⟩
  have w3B : Hid (Below w2.heap.size w2 w3) := wzB.out.trans (kk.mono wzB.out.size)
  have HR := Lib.hid hr
  have M3 : Hid (w3.heap[N]? = some (.cells #[.int .i64 4, .int .i64 (i : Int)] 54 (0, 0))) := (w3B.out.block _ (Sm.lt_of HG0.out)).trans HG0.out
  clear hr kk wzB
  refine hK.out _ _ M3.out (fun hHeld => ?_)
  clear hK K
  refine wpAnyH_ready (rs := [7]) (by kernel_rfl) (by simp) ?_
  refine (AllReadyH.cons (o := ⟨some 21, _, _, _, _, _⟩) rfl (fun K hK => ?_) AllReadyH.nil)
  go_simp
  refine (PG.out _ _ _ _ w3B.out HR.out).mono ?_
  rintro e w4 ⟨rfl, ⟨A4, c4, h4⟩, t4⟩
  have H4 := Lib.hid h4
  have T4 := Lib.hid ((T2.out.step w3B.out).trans t4)
  have M4 := Lib.hid (t4.hard M3.out (Wk.ask_hard _))
  clear h4 t4
  refine hK.out _ _ M4.out (fun hHeld => ?_)
  clear hK K
  refine wpAnyH_take (i := 8) (oi := ⟨some 6, _, _, _, _, _⟩) (v := .bool true) rfl (by kernel_rfl) (by kernel_rfl) (by kernel_rfl) (fun _ _ _ h => h) (Or.inl ⟨by rfl, ?_⟩) (by assumption) ?_
  · intro w hSw; (try dsimp only at hSw); go_simp
  simp only [Act.put, List.setIfInBounds_toArray, List.set_cons_zero, List.set_cons_succ]
  refine wpAnyH_done (by kernel_rfl) ?_ _
  clear hHeld
  go_wp2
  go_ret
  exact ⟨rfl, ⟨A4, c4, H4.out⟩, T4.out⟩
set_option maxRecDepth 100000 in
set_option maxHeartbeats 8000000 in
theorem answer_page_no {w W : World} (G : Tr.Gd w) {r rt mw ms : Nat} {A : Option Addr} {c : Nat} {l : List Om.Pr} {root : List UInt8} {S : Wk.St} (h : Wk.WAt w W r rt mw ms A c l root S) {r2 : Nat} {m : List Om.Pr} (ot : Tr.Ow w W r2 m) (hfit : Tr.Fit m) {i : Nat} (hi : i < 16) (hno : S.W (15 + i) ≠ some (Wk.bn m (15 + i))) :
    Calls Tryz.prog 32 #[.pointer (some ⟨r, 0, none⟩), .pointer (some ⟨r2, 0, none⟩), .agg #[.int .i64 4, .int .i64 (i : Int)]] W fun e w' => e = .returned (.bool false) ∧ Below W.heap.size W w' := by
  obtain ⟨N, hN⟩ : ∃ N, N = W.heap.size := ⟨_, rfl⟩
  obtain ⟨w2, hw2⟩ : ∃ w2, w2 = W.alloc (.cells #[.int .i64 4, .int .i64 (i : Int)] 54) := ⟨_, rfl⟩
  have b2 : Below W.heap.size W w2 := by rw [hw2]; exact (Below.refl _ W).alloc (Nat.le_refl _) _
  have g0 : w2.heap[N]? = some (.cells #[.int .i64 4, .int .i64 (i : Int)] 54 (0, 0)) := by rw [hw2, hN]; exact heap_alloc_new _ _
  have HB2 := Lib.hid b2
  have HG0 := Lib.hid g0
  have T2 : Hid (Wk.Turn w W w2) := .of_below b2
  have HC : Hid (∀ wx : World, Below w2.heap.size w2 wx → wx.cell? ⟨N, 0, none⟩ = some (.int .i64 4) ∧ wx.cell? ⟨N, 1, none⟩ = some (.int .i64 (i : Int))) := fun wx hb =>
    ⟨(hb.cell (p := ⟨N, 0, none⟩) (Sm.lt_of g0)).trans (Sm.cells_of g0 0 _ rfl), (hb.cell (p := ⟨N, 1, none⟩) (Sm.lt_of g0)).trans (Sm.cells_of g0 1 _ rfl)⟩
  have hp : Bu.pageE (i : Int) (Bu.part m i) = 0 := Bu.page_part hfit.may hfit.len (by omega)
  have hbn : Wk.bn m (15 + i) = Sm.sum (Wk.pageT (Bu.part m i)) := Wk.bn_leaf m hi
  have PA : Hid (∀ wx : World, Below w2.heap.size w2 wx → Calls Tryz.prog 60 #[.pointer (some ⟨r2, 0, none⟩), .int .i64 (i : Int)] wx fun e w' => ∃ B q, e = .returned (.slice B (Bu.part m i).length q) ∧ Om.Row w' wx.heap.size B q (Bu.part m i) ∧ Below wx.heap.size wx w') := fun wx k => ((ot.step b2).step k).pairsC hi
  have PG : Hid (∀ (wx : World) (B : Option Addr) (q M : Nat), Below w2.heap.size w2 wx → Om.Row wx M B q (Bu.part m i) → Calls Tryz.prog 30 #[.pointer (some ⟨r, 0, none⟩), .int .i64 (i : Int), .slice B (Bu.part m i).length q] wx fun e w' => e = .returned (.bool false) ∧ Below wx.heap.size wx w') := fun wx B q M k hr => by
    have hpl : Wk.plc (15 + i) = ((4 : Int), (i : Int)) := Wk.plc_pl (v := 4) (i := i) (by decide) (by omega)
    refine wkPage_no G ((h.step b2).step k) q hr.listAt hp ?_
    rw [← hpl, Wk.hit_plc S (by omega), ← hbn]
    exact hno
  obtain ⟨y0, y1⟩ := HC.out w2 (Below.refl _ _)
  obtain ⟨p, hpe⟩ : ∃ p, p = Bu.part m i := ⟨_, rfl⟩
  rw [← hpe] at PA PG
  clear h ot G b2 g0 hfit hp hbn hpe hi hno
  go_enter Tryz.func32, Tryz.ntmps32
  go_upto_region 1 with (fail)
  change Code.wp _ _ _ _ (W.alloc (.cells #[.int .i64 4, .int .i64 (i : Int)] 54))
  rw [← hw2, ← hN]
  clear hw2 hN
  go_upto_region 2 with (fail)
  refine wp_region_held_drew (S := fun w' => w'.heap[N]? = some (.cells #[.int .i64 4, .int .i64 (i : Int)] 54 (0, 0))) (by kernel_rfl) HG0.out (fun hHeld => ?_)
  obtain ⟨wz, hwz⟩ : ∃ x, x = w2.drew := ⟨_, rfl⟩
  have wzB : Hid (Below w2.heap.size w2 wz) := by rw [hwz]; exact (Below.refl _ _).drew
  rw [← hwz] at hHeld ⊢
  clear hwz
  refine wpAnyH_take (i := 0) (oi := ⟨some 14, _, _, _, _, _⟩) (v := .pointer (some ⟨r, 0, none⟩)) rfl (by kernel_rfl) (by kernel_rfl) (by kernel_rfl) (fun _ _ _ h => h) (Or.inl ⟨by rfl, ?_⟩) (by assumption) ?_
  · intro w hSw; (try dsimp only at hSw); go_simp
  simp only [Act.put, List.setIfInBounds_toArray, List.set_cons_zero, List.set_cons_succ]
  refine wpAnyH_take (i := 1) (oi := ⟨some 15, _, _, _, _, _⟩) (v := .pointer (some ⟨N, 1, none⟩)) rfl (by kernel_rfl) (by kernel_rfl) (by kernel_rfl) (fun _ _ _ h => h) (Or.inl ⟨by rfl, ?_⟩) (by assumption) ?_
  · intro w hSw; (try dsimp only at hSw); go_simp
  simp only [Act.put, List.setIfInBounds_toArray, List.set_cons_zero, List.set_cons_succ]
  refine wpAnyH_take (i := 2) (oi := ⟨some 16, _, _, _, _, _⟩) (v := .int .i64 (i : Int)) rfl (by kernel_rfl) (by kernel_rfl) (by kernel_rfl) (fun _ _ _ h => h) (Or.inl ⟨by rfl, ?_⟩) (by assumption) ?_
  · intro w hSw; (try dsimp only at hSw); have q1 := Sm.cells_of hSw 1 (.int .i64 (i : Int)) rfl; go_simp
  simp only [Act.put, List.setIfInBounds_toArray, List.set_cons_zero, List.set_cons_succ]
  refine wpAnyH_take (i := 3) (oi := ⟨some 17, _, _, _, _, _⟩) (v := .pointer (some ⟨r2, 0, none⟩)) rfl (by kernel_rfl) (by kernel_rfl) (by kernel_rfl) (fun _ _ _ h => h) (Or.inl ⟨by rfl, ?_⟩) (by assumption) ?_
  · intro w hSw; (try dsimp only at hSw); go_simp
  simp only [Act.put, List.setIfInBounds_toArray, List.set_cons_zero, List.set_cons_succ]
  refine wpAnyH_take (i := 4) (oi := ⟨some 18, _, _, _, _, _⟩) (v := .pointer (some ⟨N, 1, none⟩)) rfl (by kernel_rfl) (by kernel_rfl) (by kernel_rfl) (fun _ _ _ h => h) (Or.inl ⟨by rfl, ?_⟩) (by assumption) ?_
  · intro w hSw; (try dsimp only at hSw); go_simp
  simp only [Act.put, List.setIfInBounds_toArray, List.set_cons_zero, List.set_cons_succ]
  refine wpAnyH_take (i := 5) (oi := ⟨some 19, _, _, _, _, _⟩) (v := .int .i64 (i : Int)) rfl (by kernel_rfl) (by kernel_rfl) (by kernel_rfl) (fun _ _ _ h => h) (Or.inl ⟨by rfl, ?_⟩) (by assumption) ?_
  · intro w hSw; (try dsimp only at hSw); have q1 := Sm.cells_of hSw 1 (.int .i64 (i : Int)) rfl; go_simp
  simp only [Act.put, List.setIfInBounds_toArray, List.set_cons_zero, List.set_cons_succ]
  refine wpAnyH_ready (rs := [6]) (by kernel_rfl) (by simp) ?_
  refine (AllReadyH.cons (o := ⟨some 20, _, _, _, _, _⟩) rfl (fun K hK => ?_) AllReadyH.nil)
  go_simp
  refine (PA.out _ wzB.out).mono ?_
  rintro e w3 ⟨B, q, rfl, hr, kk⟩
  have w3B : Hid (Below w2.heap.size w2 w3) := wzB.out.trans (kk.mono wzB.out.size)
  have HR := Lib.hid hr
  have M3 : Hid (w3.heap[N]? = some (.cells #[.int .i64 4, .int .i64 (i : Int)] 54 (0, 0))) := (w3B.out.block _ (Sm.lt_of HG0.out)).trans HG0.out
  clear hr kk wzB
  refine hK.out _ _ M3.out (fun hHeld => ?_)
  clear hK K
  refine wpAnyH_ready (rs := [7]) (by kernel_rfl) (by simp) ?_
  refine (AllReadyH.cons (o := ⟨some 21, _, _, _, _, _⟩) rfl (fun K hK => ?_) AllReadyH.nil)
  go_simp
  refine (PG.out _ _ _ _ w3B.out HR.out).mono ?_
  rintro e w4 ⟨rfl, kk⟩
  have w4B : Hid (Below w2.heap.size w2 w4) := w3B.out.trans (kk.mono w3B.out.size)
  have M4 : Hid (w4.heap[N]? = some (.cells #[.int .i64 4, .int .i64 (i : Int)] 54 (0, 0))) := (w4B.out.block _ (Sm.lt_of HG0.out)).trans HG0.out
  clear kk
  refine hK.out _ _ M4.out (fun hHeld => ?_)
  clear hK K
  refine wpAnyH_take (i := 8) (oi := ⟨some 6, _, _, _, _, _⟩) (v := .bool false) rfl (by kernel_rfl) (by kernel_rfl) (by kernel_rfl) (fun _ _ _ h => h) (Or.inl ⟨by rfl, ?_⟩) (by assumption) ?_
  · intro w hSw; (try dsimp only at hSw); go_simp
  simp only [Act.put, List.setIfInBounds_toArray, List.set_cons_zero, List.set_cons_succ]
  refine wpAnyH_done (by kernel_rfl) ?_ _
  clear hHeld
  go_wp2
  go_ret
  exact ⟨rfl, HB2.out.trans (w4B.out.mono HB2.out.size)⟩
end Go.Proofs.YtiehcplepneajaaGreatDoor

/-
  The way from no pair to app/a 1: five answers, reckoned.
-/
namespace Go.Proofs.YtiehcplepneajaaGreatDoor
open Go.RowKit
namespace Wk
/-- A walk as Bu.one of an elder base. -/
theorem WAt.rebase {v w W : World} {r rt mw ms : Nat} {A : Option Addr} {c : Nat} {l : List Om.Pr} {root : List UInt8} {S : St} (h : WAt w W r rt mw ms A c l root S) (k : Below v.heap.size v w) : WAt v W r rt mw ms A c l root S :=
  ⟨h.len, h.blk, ⟨h.ow.tree, k.trans (h.ow.bel.mono k.size), Nat.le_trans k.size h.ow.low⟩, h.wanted, h.wlen, h.staged, h.texts.base k.size, Nat.le_trans k.size h.lowr, Nat.le_trans k.size h.loww, Nat.le_trans k.size h.lows, h.ne⟩
/-- What is asked for, after n answers. -/
def ks (n : Nat) : Nat := if n = 0 then 0 else if n = 1 then 1 else if n = 2 then 3 else if n = 3 then 8 else 18
structure Stg (n : Nat) (S : St) : Prop where
  W : ∀ j, S.W j = if n < 5 ∧ j = ks n then some (bn Bu.one j) else none
  P : ∀ i, S.P i = if n = 5 ∧ i = 3 then some Bu.one else none
  T : S.T.length = n
theorem node_left {S : St} {k ka kb : Nat} (ha : ka = 2 * k + 1) (hb : kb = 2 * k + 2) (hW : ∀ j, S.W j = if j = k then some (bn Bu.one j) else none) (hd : bn [] ka ≠ bn Bu.one ka) (he : bn [] kb = bn Bu.one kb) :
    ∀ j, (node [] S k (bn Bu.one ka) (bn Bu.one kb)).W j = if j = ka then some (bn Bu.one j) else none := fun j => by
  have hab : ka ≠ kb := by omega
  unfold node
  rw [← ha, ← hb]
  rw [ask_same he, ask_other hd]
  show (if j = ka then some (bn Bu.one ka) else if j = k then none else S.W j) = _
  by_cases h1 : j = ka
  · rw [if_pos h1, if_pos h1, h1]
  · rw [if_neg h1, if_neg h1, hW j]
    by_cases h2 : j = k
    · rw [if_pos h2]
    · rw [if_neg h2, if_neg h2]
theorem node_right {S : St} {k ka kb : Nat} (ha : ka = 2 * k + 1) (hb : kb = 2 * k + 2) (hW : ∀ j, S.W j = if j = k then some (bn Bu.one j) else none) (he : bn [] ka = bn Bu.one ka) (hd : bn [] kb ≠ bn Bu.one kb) :
    ∀ j, (node [] S k (bn Bu.one ka) (bn Bu.one kb)).W j = if j = kb then some (bn Bu.one j) else none := fun j => by
  have hab : ka ≠ kb := by omega
  unfold node
  rw [← ha, ← hb]
  rw [ask_same he, ask_other hd]
  show (if j = kb then some (bn Bu.one kb) else if j = k then none else S.W j) = _
  by_cases h1 : j = kb
  · rw [if_pos h1, if_pos h1, h1]
  · rw [if_neg h1, if_neg h1, hW j]
    by_cases h2 : j = k
    · rw [if_pos h2]
    · rw [if_neg h2, if_neg h2]
theorem ask_PT (l : List Om.Pr) (S : St) (k : Nat) (h : List UInt8) : (ask l S k h).P = S.P ∧ (ask l S k h).T = S.T := by
  unfold ask
  split <;> exact ⟨rfl, rfl⟩
theorem node_PT (l : List Om.Pr) (S : St) (k : Nat) (a b : List UInt8) : (node l S k a b).P = S.P ∧ (node l S k a b).T = S.T ++ [Tr.innerT a b] := by
  unfold node
  rw [(ask_PT _ _ _ _).1, (ask_PT _ _ _ _).2, (ask_PT _ _ _ _).1, (ask_PT _ _ _ _).2]
  exact ⟨rfl, rfl⟩
open Tr
theorem stg0 : Stg 0 (start [] o4) := by
  have h : ¬ bn [] 0 = o4 := by
    rw [show bn [] 0 = Tr.root [] from rfl, rootNone]
    exact fun e => roots_ne e.symm
  refine ⟨fun j => ?_, fun i => ?_, ?_⟩
  · unfold start
    rw [ask_other h]
    show (if j = 0 then some o4 else none) = if 0 < 5 ∧ j = ks 0 then some (bn Bu.one j) else none
    by_cases e : j = 0
    · rw [if_pos e, if_pos ⟨by decide, e⟩, e, show bn Bu.one 0 = Tr.root Bu.one from rfl, rootOne]
    · rw [if_neg e, if_neg (fun q => e q.2)]
  · unfold start
    rw [(ask_PT _ _ _ _).1]
    rfl
  · unfold start
    rw [(ask_PT _ _ _ _).2]
    rfl
theorem Stg.toW {n : Nat} {S : St} (h : Stg n S) (hn : n < 5) : ∀ j, S.W j = if j = ks n then some (bn Bu.one j) else none := fun j => by
  rw [h.W j]
  by_cases e : j = ks n
  · rw [if_pos ⟨hn, e⟩, if_pos e]
  · rw [if_neg (fun q => e q.2), if_neg e]
theorem Stg.ofW {n : Nat} {S S' : St} (h : Stg n S) (hn : n < 4) (hW : ∀ j, S'.W j = if j = ks (n + 1) then some (bn Bu.one j) else none) (hP : S'.P = S.P) {t : List UInt8} (hT : S'.T = S.T ++ [t]) : Stg (n + 1) S' := by
  refine ⟨fun j => ?_, fun i => ?_, ?_⟩
  · rw [hW j]
    by_cases e : j = ks (n + 1)
    · rw [if_pos e, if_pos ⟨by omega, e⟩]
    · rw [if_neg e, if_neg (fun q => e q.2)]
  · rw [hP, h.P i, if_neg (by omega), if_neg (by omega)]
  · rw [hT, List.length_append, h.T]; rfl
theorem b1 (l : List Om.Pr) : bn l 1 = nd l 3 0 := bn_pl l (v := 1) (i := 0) (by decide) (by decide)
theorem b2 (l : List Om.Pr) : bn l 2 = nd l 3 1 := bn_pl l (v := 1) (i := 1) (by decide) (by decide)
theorem b3 (l : List Om.Pr) : bn l 3 = nd l 2 0 := bn_pl l (v := 2) (i := 0) (by decide) (by decide)
theorem b4 (l : List Om.Pr) : bn l 4 = nd l 2 1 := bn_pl l (v := 2) (i := 1) (by decide) (by decide)
theorem b7 (l : List Om.Pr) : bn l 7 = nd l 1 0 := bn_pl l (v := 3) (i := 0) (by decide) (by decide)
theorem b8 (l : List Om.Pr) : bn l 8 = nd l 1 1 := bn_pl l (v := 3) (i := 1) (by decide) (by decide)
theorem b17 (l : List Om.Pr) : bn l 17 = nd l 0 2 := bn_pl l (v := 4) (i := 2) (by decide) (by decide)
theorem b18 (l : List Om.Pr) : bn l 18 = nd l 0 3 := bn_pl l (v := 4) (i := 3) (by decide) (by decide)
theorem d1 : bn [] 1 ≠ bn Bu.one 1 := by rw [b1, b1, none3, one3']; decide
theorem s2 : bn [] 2 = bn Bu.one 2 := by rw [b2, b2, none3, one3]
theorem d3 : bn [] 3 ≠ bn Bu.one 3 := by rw [b3, b3, none2, one2']; decide
theorem s4 : bn [] 4 = bn Bu.one 4 := by rw [b4, b4, none2, one2 (by decide)]
theorem s7 : bn [] 7 = bn Bu.one 7 := by rw [b7, b7, none1, one1 (by decide)]
theorem d8 : bn [] 8 ≠ bn Bu.one 8 := by rw [b8, b8, none1, one1']; decide
theorem s17 : bn [] 17 = bn Bu.one 17 := by rw [b17, b17, none0, one0 (by decide)]
theorem d18 : bn [] 18 ≠ bn Bu.one 18 := by rw [b18, b18, none0, one0']; decide
theorem way0 {S : St} (hw : ∀ j, S.W j = if j = 0 then some (bn Bu.one j) else none) : ∀ j, (node [] S 0 (bn Bu.one 1) (bn Bu.one 2)).W j = if j = 1 then some (bn Bu.one j) else none :=
  node_left (k := 0) (ka := 1) (kb := 2) rfl rfl hw d1 s2
theorem way1 {S : St} (hw : ∀ j, S.W j = if j = 1 then some (bn Bu.one j) else none) : ∀ j, (node [] S 1 (bn Bu.one 3) (bn Bu.one 4)).W j = if j = 3 then some (bn Bu.one j) else none :=
  node_left (k := 1) (ka := 3) (kb := 4) rfl rfl hw d3 s4
theorem way2 {S : St} (hw : ∀ j, S.W j = if j = 3 then some (bn Bu.one j) else none) : ∀ j, (node [] S 3 (bn Bu.one 7) (bn Bu.one 8)).W j = if j = 8 then some (bn Bu.one j) else none :=
  node_right (k := 3) (ka := 7) (kb := 8) rfl rfl hw s7 d8
theorem way3 {S : St} (hw : ∀ j, S.W j = if j = 8 then some (bn Bu.one j) else none) : ∀ j, (node [] S 8 (bn Bu.one 17) (bn Bu.one 18)).W j = if j = 18 then some (bn Bu.one j) else none :=
  node_right (k := 8) (ka := 17) (kb := 18) rfl rfl hw s17 d18
theorem stg_node {n : Nat} {S : St} (h : Stg n S) (hn : n < 4) {k ka kb : Nat} (hk : k = ks n) (ha : ka = 2 * k + 1) (hb : kb = 2 * k + 2) : Stg (n + 1) (node [] S k (bn Bu.one ka) (bn Bu.one kb)) := by
  have hw := h.toW (by omega)
  obtain ⟨h1, h2⟩ := node_PT [] S k (bn Bu.one ka) (bn Bu.one kb)
  rw [← hk] at hw
  refine h.ofW hn ?_ h1 h2
  clear h1 h2 h
  obtain rfl | rfl | rfl | rfl : n = 0 ∨ n = 1 ∨ n = 2 ∨ n = 3 := by omega
  · have e : k = 0 := hk
    subst e
    have e1 : ka = 1 := ha
    have e2 : kb = 2 := hb
    subst e1
    subst e2
    exact way0 hw
  · have e : k = 1 := hk
    subst e
    have e1 : ka = 3 := ha
    have e2 : kb = 4 := hb
    subst e1
    subst e2
    exact way1 hw
  · have e : k = 3 := hk
    subst e
    have e1 : ka = 7 := ha
    have e2 : kb = 8 := hb
    subst e1
    subst e2
    exact way2 hw
  · have e : k = 8 := hk
    subst e
    have e1 : ka = 17 := ha
    have e2 : kb = 18 := hb
    subst e1
    subst e2
    exact way3 hw
theorem stg_page {S : St} (h : Stg 4 S) : Stg 5 (page S 3 (Bu.part Bu.one ((3 : Nat) : Int))) := by
  have hw := h.toW (by decide)
  have hp : Bu.part Bu.one ((3 : Nat) : Int) = Bu.one := Bu.partOne
  refine ⟨fun j => ?_, fun i => ?_, ?_⟩
  · show (if j = 15 + 3 then none else S.W j) = _
    rw [if_neg (c := 5 < 5 ∧ j = ks 5) (by omega), hw j]
    rw [show ks 4 = 18 by decide]
    by_cases e : j = 18
    · rw [if_pos (by omega)]
    · rw [if_neg (by omega), if_neg e]
  · show (if i = 3 then some (Bu.part Bu.one ((3 : Nat) : Int)) else S.P i) = _
    rw [hp, h.P i]
    by_cases e : i = 3
    · rw [if_pos e, if_pos ⟨rfl, e⟩]
    · rw [if_neg e, if_neg (by omega), if_neg (by omega)]
  · show (S.T ++ [_]).length = 5
    rw [List.length_append, h.T]; rfl
theorem Stg.wants {n : Nat} {S : St} (h : Stg n S) : wants S = if n < 5 then [ks n] else [] := by
  unfold Wk.wants
  have e : (fun k => (S.W k).isSome) = fun k => decide (n < 5 ∧ k = ks n) := by
    funext k
    rw [h.W k]
    split <;> rename_i q <;> simp [q]
  rw [e]
  by_cases hn : n < 5
  · rw [if_pos hn]
    match n, hn with
    | 0, _ => decide
    | 1, _ => decide
    | 2, _ => decide
    | 3, _ => decide
    | 4, _ => decide
  · rw [if_neg hn]
    refine List.filter_eq_nil_iff.2 fun x _ => ?_
    simp [hn]
theorem Stg.good {n : Nat} {S : St} (h : Stg n S) : Good S := fun i m hm => by
  rw [h.P i] at hm
  split at hm
  · rename_i q
    cases hm
    rw [q.2]
    have := Bu.page_part (l := Bu.one) Bu.mayOne (by decide) (i := 3) (by decide)
    rw [show Bu.part Bu.one (3 : Int) = Bu.one from Bu.partOne] at this
    exact this
  · cases hm
theorem stg_out {S : St} (h : Stg 5 S) : (∀ i, partOf [] S i = if i = 3 then Bu.one else []) := fun i => by
  unfold partOf
  rw [h.P i]
  by_cases e : i = 3
  · rw [if_pos ⟨rfl, e⟩, if_pos e]; rfl
  · rw [if_neg (fun q => e q.2), if_neg e]; rfl
theorem stg_cat {S : St} (h : Stg 5 S) : catS [] S 16 = Bu.one := by
  have e := stg_out h
  simp only [catS, e]
  rfl
theorem stg_done {S : St} (h : Stg 5 S) : out [] S = Bu.one := by
  unfold out
  rw [stg_cat h]
  rfl
end Wk
end Go.Proofs.YtiehcplepneajaaGreatDoor

/-
  The statements' wakes of layer 16 is true.
-/
namespace Go.Proofs.YtiehcplepneajaaGreatDoor
open Go.RowKit
namespace Wk
theorem ks_lt (n : Nat) : ks n < 31 := by unfold ks; (repeat' split) <;> omega
/-- The walk of wakes, after n answers. -/
structure WkAt (w W : World) (rt2 r rt mw ms n : Nat) : Prop where
  at_ : ∃ A c S, WAt w W r rt mw ms A c [] Tr.o4 S ∧ Stg n S
  tree : Tr.Ow w W rt2 Bu.one
variable {w W W' : World} {rt2 r rt mw ms n : Nat}
theorem WkAt.step (h : WkAt w W rt2 r rt mw ms n) (k : Below W.heap.size W W') : WkAt w W' rt2 r rt mw ms n := by
  obtain ⟨A, c, S, h1, h2⟩ := h.at_
  exact ⟨⟨A, c, S, h1.step k, h2⟩, h.tree.step k⟩
theorem WkAt.wantC (h : WkAt w W rt2 r rt mw ms n) : Calls Tryz.prog 22 #[.pointer (some ⟨r, 0, none⟩), .int .i64 1] W fun e w' => ∃ B q, e = .returned (.slice B (if n < 5 then 1 else 0) q) ∧ (n < 5 → ∃ b, B = some ⟨b, 0, none⟩ ∧ b < w'.heap.size ∧ w'.cell? ⟨b, 0, none⟩ = some (.int .i64 (plc (ks n)).1) ∧ w'.cell? ⟨b, 1, none⟩ = some (.int .i64 (plc (ks n)).2)) ∧ Below W.heap.size W w' := by
  obtain ⟨A, c, S, h1, h2⟩ := h.at_
  refine (wkWant_any h1 1).mono ?_
  rintro e w' ⟨B, q, rfl, -, -, hat, hb⟩
  rw [h2.wants] at hat ⊢
  by_cases hn : n < 5
  · simp only [if_pos hn] at hat ⊢
    refine ⟨B, q, rfl, fun _ => ?_, hb⟩
    rcases hat with e | ⟨b, e, hbl, hc⟩
    · cases e
    · have := hc 0 (Nat.zero_lt_one)
      exact ⟨b, e, hbl, this⟩
  · simp only [if_neg hn] at hat ⊢
    exact ⟨B, q, rfl, fun q => absurd q hn, hb⟩
theorem WkAt.answerC (G : Tr.Gd w) (h : WkAt w W rt2 r rt mw ms n) (hn : n < 5) : Calls Tryz.prog 32 #[.pointer (some ⟨r, 0, none⟩), .pointer (some ⟨rt2, 0, none⟩), .agg #[.int .i64 (plc (ks n)).1, .int .i64 (plc (ks n)).2]] W fun e w' => e = .returned (.bool true) ∧ WkAt w w' rt2 r rt mw ms (n + 1) ∧ Below w.heap.size w w' := by
  obtain ⟨A, c, S, h1, h2⟩ := h.at_
  have hS := h2.toW hn (ks n)
  rw [if_pos rfl] at hS
  have hT : S.T.length ≤ 1000000 := by rw [h2.T]; omega
  by_cases h4 : n < 4
  · have hv : lev (ks n) < 4 := by
      obtain rfl | rfl | rfl | rfl : n = 0 ∨ n = 1 ∨ n = 2 ∨ n = 3 := by omega
      · decide
      · decide
      · decide
      · decide
    obtain ⟨hp, hi⟩ := lev_pl (ks_lt n)
    have := answer_node_yes G h1 h.tree hv hi (by rw [hp]; exact hS) hT
    rw [hp] at this
    refine this.mono ?_
    rintro e w' ⟨rfl, ⟨A', c', h3⟩, t⟩
    have hb := t.below h1.ow.bel
    exact ⟨rfl, ⟨⟨A', c', _, h3, stg_node h2 h4 rfl rfl rfl⟩, t.ow h.tree⟩, hb⟩
  · have hn4 : n = 4 := by omega
    subst hn4
    have := answer_page_yes G h1 h.tree (Tr.fit_of Bu.mayOne (by decide)) (i := 3) (by decide) hS hT
    refine this.mono ?_
    rintro e w' ⟨rfl, ⟨A', c', h3⟩, t⟩
    exact ⟨rfl, ⟨⟨A', c', _, h3, stg_page h2⟩, t.ow h.tree⟩, t.below h1.ow.bel⟩
theorem WkAt.doneC (G : Tr.Gd w) (h : WkAt w W rt2 r rt mw ms 5) : Calls Tryz.prog 23 #[.pointer (some ⟨r, 0, none⟩)] W fun e w' => ∃ b o q, e = .returned (.tuple #[.slice (some ⟨b, o, none⟩) 1 q, .bool true]) ∧ b < w'.heap.size ∧ w'.cell? ⟨b, o + 1, none⟩ = some (.string ⟨#[49]⟩) ∧ Below W.heap.size W w' := by
  obtain ⟨A, c, S, h1, h2⟩ := h.at_
  have hW : ∀ k, k < 31 → S.W k = none := fun k _ => by rw [h2.W k, if_neg (by omega)]
  have hc := stg_cat h2
  have ho := stg_done h2
  refine (wkDone_yes G h1 h2.good hW (by rw [hc]; decide)).mono ?_
  rintro e w' ⟨B, q, rfl, hl, hb⟩
  rw [ho] at hl ⊢
  rcases hl with hl | ⟨b, o, rfl, hbl, hp⟩
  · cases hl
  · have := hp 0 (by decide)
    exact ⟨b, o, q, rfl, hbl, this.2, hb⟩
theorem WkAt.rootC (h : WkAt w W rt2 r rt mw ms n) : Calls Tryz.prog 26 #[.pointer (some ⟨r, 0, none⟩)] W fun e w' => e = .returned (.agg (Lib.byteCells Tr.o4).toArray) ∧ Below W.heap.size W w' := by
  obtain ⟨A, c, S, h1, h2⟩ := h.at_
  exact wkRoot_any h1
theorem WkAt.rootT (h : WkAt w W rt2 r rt mw ms n) : Calls Tryz.prog 18 #[.pointer (some ⟨rt2, 0, none⟩)] W fun e w' => e = .returned (.agg (Lib.byteCells Tr.o4).toArray) ∧ Below W.heap.size W w' := by
  have := h.tree.rootC
  rw [Tr.rootOne] at this
  exact this
end Wk
set_option maxRecDepth 100000 in
set_option maxHeartbeats 4000000 in
theorem awake16_any {w : World} (G : Tr.Gd w) : Calls Tryz.prog 14 #[] w fun e w' => e = .returned (.bool true) ∧ Below w.heap.size w w' := by
  obtain ⟨W1, hW1⟩ : ∃ W1, W1 = w.alloc (.cells #[.string ⟨#[97, 112, 112, 47, 97]⟩, .string ⟨#[49]⟩] 79) := ⟨_, rfl⟩
  have b1 : Below w.heap.size w W1 := by rw [hW1]; exact (Below.refl _ w).alloc (Nat.le_refl _) _
  have g1 : W1.heap[w.heap.size]? = some (.cells #[.string ⟨#[97, 112, 112, 47, 97]⟩, .string ⟨#[49]⟩] 79 (0, 0)) := by rw [hW1]; exact heap_alloc_new _ _
  have OF : Hid (Calls Tryz.prog 15 #[.slice (some ⟨w.heap.size, 0, none⟩) 1 1] W1 fun e w' => ∃ rt2, e = .returned (.tuple #[.pointer (some ⟨rt2, 0, none⟩), .int .i64 0]) ∧ Tr.Ow w w' rt2 Bu.one) := by
    refine (Tr.ofC G b1 (m := Bu.one) 1 (Tr.pair_at g1) (Tr.fit_of Bu.mayOne (by decide))).mono ?_
    rintro e w' ⟨rt2, h1, h2, -⟩
    exact ⟨rt2, h1, h2⟩
  have RT : Hid (∀ (wx : World) (rt2 : Nat), Tr.Ow w wx rt2 Bu.one → Calls Tryz.prog 18 #[.pointer (some ⟨rt2, 0, none⟩)] wx fun e w' => e = .returned (.agg (Lib.byteCells Tr.o4).toArray) ∧ Tr.Ow w w' rt2 Bu.one) := fun wx rt2 o => by
    have := o.rootC
    rw [Tr.rootOne] at this
    refine this.mono ?_
    rintro e w' ⟨rfl, hb⟩
    exact ⟨rfl, o.step hb⟩
  have NEW : Hid (∀ (wx : World) (rt2 : Nat), Tr.Ow w wx rt2 Bu.one → Calls Tryz.prog 17 #[.slice none 0 0, .agg (Lib.byteCells Tr.o4).toArray] wx fun e w' => ∃ r rt mw ms, e = .returned (.tuple #[.pointer (some ⟨r, 0, none⟩), .int .i64 0]) ∧ Wk.WkAt w w' rt2 r rt mw ms 0 ∧ Below w.heap.size w w') := fun wx rt2 o => by
    refine (wkNew_ok (G.low o.bel) (l := []) 0 (.inl rfl) Tr.Fit.nil (x := Tr.o4) rfl).mono ?_
    rintro e w' ⟨r, rt, mw, ms, rfl, h, hb⟩
    exact ⟨r, rt, mw, ms, rfl, ⟨⟨_, _, _, h.rebase o.bel, Wk.stg0⟩, o.step hb⟩, o.bel.trans (hb.mono o.bel.size)⟩
  have HG := Lib.hid G
  have WANT := Lib.hid (fun (wx : World) (rt2 r rt mw ms n : Nat) (h : Wk.WkAt w wx rt2 r rt mw ms n) => h.wantC)
  have ANS := Lib.hid (fun (wx : World) (rt2 r rt mw ms n : Nat) (h : Wk.WkAt w wx rt2 r rt mw ms n) (hn : n < 5) => h.answerC G hn)
  have DONE := Lib.hid (fun (wx : World) (rt2 r rt mw ms : Nat) (h : Wk.WkAt w wx rt2 r rt mw ms 5) => h.doneC G)
  have RW := Lib.hid (fun (wx : World) (rt2 r rt mw ms : Nat) (h : Wk.WkAt w wx rt2 r rt mw ms 5) => h.rootC)
  have RT5 := Lib.hid (fun (wx : World) (rt2 r rt mw ms : Nat) (h : Wk.WkAt w wx rt2 r rt mw ms 5) => h.rootT)
  have HW1 := Lib.hid hW1
  obtain ⟨co, hco⟩ : ∃ c, c = (Lib.byteCells Tr.o4).toArray := ⟨_, rfl⟩
  have heq : ∀ wx : World, (Op.equalIn 10000 36 (.agg co) (.agg co)).run Tryz.prog wx = .ok true wx := fun wx => by
    have := Sm.eq_hash Tr.o4 Tr.o4 rfl rfl wx
    rw [hco, this]
    simp
  rw [← hco] at RT NEW
  simp only [← hco] at RW RT5
  clear hco b1 g1 hW1 G
  go_enter Tryz.func14, Tryz.ntmps14
  go_upto_region 8 with first
    | (go_at_call 15; rw [← HW1.out]; refine OF.out.mono ?_; rintro e w2 ⟨rt2, rfl, o2⟩; have O2 := Lib.hid o2; clear o2)
    | (go_at_call 18; refine (RT.out _ _ O2.out).mono ?_; clear RT; rintro e w3 ⟨rfl, o3⟩; have O3 := Lib.hid o3; clear o3)
    | (go_at_call 17; refine (NEW.out _ _ O3.out).mono ?_; clear NEW; rintro e w4 ⟨r, rt, mw, ms, rfl, h4, b4⟩; have H4 := Lib.hid h4; have B4 := Lib.hid b4; clear h4 b4)
  go_loopw [5] (fun s5 wr => ∃ n : Nat, s5 = .int .i64 n ∧ n ≤ 5 ∧ Wk.WkAt w wr rt2 r rt mw ms n ∧ Below w.heap.size w wr) (fun s5 _ => 5 - (intOf s5).toNat)
  case atStart => exact ⟨0, rfl, by omega, H4.out, B4.out⟩
  case round =>
    obtain ⟨n, rfl, hn, hat, hb⟩ := hrel
    have W5 := Lib.hid (WANT.out _ _ _ _ _ _ _ hat)
    have HAT := Lib.hid hat
    have HB := Lib.hid hb
    clear hat hb
    by_cases hlt : n < 5
    · have hsuc : IntKind.i64.wrap ((n : Int) + 1) = ((n + 1 : Nat) : Int) := by simp [IntKind.wrap, IntKind.bits, IntKind.signed]; omega
      have hn9 : ¬ (n : Int) > 9 := by omega
      have hn9' : (n : Int) ≤ 9 := by omega
      simp only [if_pos hlt] at W5
      have HLT := Lib.hid hlt
      clear hlt
      obtain ⟨p, hp⟩ : ∃ p, p = Wk.plc (Wk.ks n) := ⟨_, rfl⟩
      simp only [← hp] at W5
      have HP := Lib.hid hp
      clear hp
      go_wp2_with first
        | (go_at_call 22; refine W5.out.mono ?_; rintro e w5 ⟨B, q, rfl, hB, k5⟩; obtain ⟨b, rfl, hbl, y0, y1⟩ := hB HLT.out; have H5 := Lib.hid (HAT.out.step k5); have K5 := Lib.hid k5; clear hB k5)
        | (go_at_call 32; rw [HP.out]; refine (ANS.out _ _ _ _ _ _ _ H5.out HLT.out).mono ?_; rintro e w6 ⟨rfl, h6, k6⟩; have H6 := Lib.hid h6; have K6 := Lib.hid k6; clear h6 k6)
      go_roundw
      case rel => exact ⟨n + 1, rfl, HLT.out, H6.out, K6.out⟩
      case measure => simp only [intOf]; have := HLT.out; omega
    · have hn5 : n = 5 := by omega
      subst hn5
      simp only [if_neg hlt] at W5
      clear hlt
      go_upto_region 13 with first
        | (go_at_call 22; refine W5.out.mono ?_; rintro e w5 ⟨B, q, rfl, -, k5⟩; have H5 := Lib.hid (HAT.out.step k5); have K5 := Lib.hid (HB.out.trans (k5.mono HB.out.size)); clear k5)
        | (go_at_call 23; refine (DONE.out _ _ _ _ _ _ H5.out).mono ?_; rintro e w6 ⟨b, o, q6, rfl, hbl, y1, k6⟩; have H6 := Lib.hid (H5.out.step k6); have K6 := Lib.hid (K5.out.trans (k6.mono K5.out.size)); clear k6)
      have R6 := Lib.hid (RW.out _ _ _ _ _ _ H6.out)
      go_wp2_with first
        | (go_at_call 26; refine R6.out.mono ?_; rintro e w7 ⟨rfl, k7⟩; have H7 := Lib.hid (H6.out.step k7); have K7 := Lib.hid (K6.out.trans (k7.mono K6.out.size)); clear k7)
        | (go_at_call 18; refine (RT5.out _ _ _ _ _ _ H7.out).mono ?_; rintro e w8 ⟨rfl, k8⟩; have K8 := Lib.hid (K7.out.trans (k8.mono K7.out.size)); clear k8)
      go_ret
      exact ⟨rfl, K8.out⟩
end Go.Proofs.YtiehcplepneajaaGreatDoor
