/-
  batch's first, whyNot, May and Right.
-/
import Derived.Test.YtlndggbidmmodaaBaWhy
import Derived.Test.YtlndggbidmmodaaBaActs
namespace Go.Proofs.Ytlndggbidmmodaa
open Go.RowKit Pk
set_option maxRecDepth 100000 in
set_option maxHeartbeats 2000000 in
theorem baFirst_any {w : World} {B : Option Addr} {l : List Ba.Op} (d : Nat) (hit : Ba.listAt w B l) (hll : l.length ≤ 9223372036854775807) (f : Ba.Op → Nat) (g : Nat)
    (HC : ∀ (wx : World) (o : Ba.Op), Below w.heap.size w wx → o ∈ l → Calls Try.prog 57 #[.agg #[.int .u8 (o.k : Int), .string o.p, .string o.v], .pointer (some ⟨g, 0, none⟩)] wx fun e w' => e = .returned (.int .i64 (f o : Nat)) ∧ Below wx.heap.size wx w') :
    Calls Try.prog 29 #[.slice B l.length d, .func (.func 57) #[] #[.pointer (some ⟨g, 0, none⟩)]] w fun e w' => e = .returned (.int .i64 (Ba.firstE f l : Nat)) ∧ Below w.heap.size w w' := by
  have eg : ∀ args w, (callFunc 57 args).run Try.prog w = .ok (.enter 57 args) w := Go.Proofs.enters_of Try.func57 (by kernel_rfl) rfl
  have HIT : Hid (∀ wx : World, Below w.heap.size w wx → ∀ j (hj : j < l.length), ∃ b off, B = some ⟨b, off, none⟩ ∧ b < w.heap.size ∧ Ba.opAt wx b (off + j * 3) l[j]) := fun wx k j hj => hit.get k j hj
  have HCC := Lib.hid HC
  clear hit HC
  unfold Ba.firstE
  by_cases h4 : 4 < l.length
  · rw [if_pos h4]
    have h4' : (4 : Int) < (l.length : Int) := by omega
    go_enter Try.func29, Try.ntmps29
    go_wp2
    go_ret
    exact ⟨rfl, Below.refl _ _⟩
  rw [if_neg h4]
  have h4' : ¬ (4 : Int) < (l.length : Int) := by omega
  obtain ⟨R, hR⟩ : ∃ R, R = Ba.whys f l := ⟨_, rfl⟩
  rw [← hR]
  have HR : Hid (R = Ba.whys f (l.drop 0)) := by show _ = _; rw [List.drop_zero]; exact hR
  obtain ⟨N, hN⟩ : ∃ N, N = w.heap.size := ⟨_, rfl⟩
  rw [← hN] at HIT HCC ⊢
  have HN := Lib.hid hN
  have B0 : Hid (Below N w w) := Below.refl _ _
  clear hR hN
  go_enter Try.func29, Try.ntmps29
  go_wp2
  go_loopw [13] (fun v wr => ∃ k : Nat, v = .int .i64 k ∧ k ≤ l.length ∧ Hid (R = Ba.whys f (l.drop k)) ∧ Below N w wr) (fun v _ => l.length - (intOf v).toNat)
  case atStart => exact ⟨0, rfl, Nat.zero_le _, HR.out, B0.out⟩
  case round =>
    clear HR B0
    obtain ⟨k, rfl, hk, hr, hb⟩ := hrel
    have HB := Lib.hid hb
    clear hb
    by_cases hlt : k < l.length
    · have hki : (k : Int) < (l.length : Int) := by omega
      have hsuc : IntKind.i64.wrap ((k : Int) + 1) = ((k + 1 : Nat) : Int) := by simp [IntKind.wrap, IntKind.bits, IntKind.signed]; omega
      obtain ⟨gb, off, rfl, hgl, o0, o1, o2⟩ := HIT.out _ HB.out k hlt
      have hrd := hr.out
      rw [Ba.whys_drop hlt] at hrd
      obtain ⟨x, hx⟩ : ∃ x, x = l[k] := ⟨_, rfl⟩
      have hmem : x ∈ l := by rw [hx]; exact List.getElem_mem hlt
      rw [← hx] at o0 o1 o2 hrd
      have CC := Lib.hid (HCC.out (wr.alloc (.cells #[.int .u8 (x.k : Int), .string x.p, .string x.v] 37)) x (HB.out.alloc (Nat.le_trans (Nat.le_of_eq HN.out) HB.out.size) _) hmem)
      have B1 := Lib.hid (HB.out.alloc (Nat.le_trans (Nat.le_of_eq HN.out) HB.out.size) (.cells #[.int .u8 (x.k : Int), .string x.p, .string x.v] 37))
      have gn := heap_alloc_new wr (.cells #[.int .u8 (x.k : Int), .string x.p, .string x.v] 37)
      have x0 := Sm.cells_of gn 0 _ rfl
      have x1 := Sm.cells_of gn 1 _ rfl
      have x2 := Sm.cells_of gn 2 _ rfl
      obtain ⟨fx, hfx⟩ : ∃ n, n = f x := ⟨_, rfl⟩
      rw [← hfx] at CC hrd
      have HRD := Lib.hid hrd
      clear hx hr hrd hgl hmem hfx gn
      by_cases hf : fx = 0
      · have hfi : ((fx : Int) != 0) = false := by rw [hf]; rfl
        have hrd := HRD.out
        rw [if_pos hf] at hrd
        have HRE := Lib.hid hrd
        clear hrd HRD hf
        go_wp2_with (go_at_fn 57; refine CC.out.mono ?_; rintro e w3 ⟨rfl, b3⟩)
        go_roundw
        case rel => exact ⟨k + 1, rfl, hlt, HRE.out, B1.out.trans (b3.mono (Nat.le_trans (Nat.le_of_eq HN.out) B1.out.size))⟩
        case measure => simp [intOf]; omega
      · have hfi : ((fx : Int) != 0) = true := by rw [bne_iff_ne]; omega
        have hrd := HRD.out
        rw [if_neg hf] at hrd
        have HRE := Lib.hid hrd
        clear hrd HRD hf
        go_wp2_with (go_at_fn 57; refine CC.out.mono ?_; rintro e w3 ⟨rfl, b3⟩)
        go_ret
        exact ⟨by rw [HRE.out]; rfl, B1.out.trans (b3.mono (Nat.le_trans (Nat.le_of_eq HN.out) B1.out.size))⟩
    · have hki : ¬ (k : Int) < (l.length : Int) := by omega
      have hrd := hr.out
      rw [List.drop_of_length_le (by omega)] at hrd
      have HRE : Hid (R = 0) := hrd
      clear hr hrd
      go_wp2
      go_ret
      exact ⟨by rw [HRE.out]; try rfl, HB.out⟩
set_option maxRecDepth 100000 in
theorem baWhyNot_any (w : World) (fn : Nat) (cap : Array Value) :
    Calls Try.prog 30 #[.func (.func fn) #[] cap] w fun e w' => e = .returned (.func (.func 57) #[] #[.pointer (some ⟨w.heap.size, 0, none⟩)]) ∧ w' = w.alloc (.cells #[.func (.func fn) #[] cap] 61) := by
  go_enter Try.func30, Try.ntmps30
  go_wp2
  go_ret
  exact ⟨rfl, rfl⟩
set_option maxRecDepth 100000 in
set_option maxHeartbeats 2000000 in
theorem baMay_any {w : World} {A : Option Addr} {m : List Pa.Mo} (c : Nat) (hm : Pa.listAt w A m) (hml : m.length ≤ 9223372036854775807) {B : Option Addr} {l : List Ba.Op} (d : Nat) (hit : Ba.listAt w B l) (hll : l.length ≤ 9223372036854775807) (hs : ∀ o ∈ l, o.p.size ≤ 281474976710656) :
    Calls Try.prog 14 #[.slice A m.length c, .slice B l.length d] w fun e w' => e = .returned (.int .i64 (Ba.mayE m l : Nat)) ∧ Below w.heap.size w w' := by
  have gn := heap_alloc_new w (.cells #[.slice A m.length c] 22)
  have b1 : Below w.heap.size w (w.alloc (.cells #[.slice A m.length c] 22)) := (Below.refl _ w).alloc (Nat.le_refl _) _
  unfold Ba.mayE
  by_cases h0 : l.length = 0
  · rw [if_pos h0]
    have h0' : (l.length : Int) < 1 := by omega
    have h0i : (l.length : Int) = 0 := by omega
    have B1 := Lib.hid b1
    clear hm hit hs gn b1
    go_enter Try.func14, Try.ntmps14
    go_wp2
    go_ret
    exact ⟨rfl, B1.out⟩
  rw [if_neg h0]
  have h0' : ¬ (l.length : Int) < 1 := by omega
  obtain ⟨N, hN⟩ : ∃ N, N = w.heap.size := ⟨_, rfl⟩
  obtain ⟨W1, hW⟩ : ∃ x, x = w.alloc (.cells #[.slice A m.length c] 22) := ⟨_, rfl⟩
  have hm1 := hm.below b1
  have hit1 := hit.below b1
  rw [← hW] at gn b1 hm1 hit1
  rw [← hN] at gn b1 ⊢
  have hsz : N < W1.heap.size := Sm.lt_of gn
  obtain ⟨W2, hW2⟩ : ∃ x, x = W1.alloc (.cells #[.func (.func 31) #[] #[.pointer (some ⟨N, 0, none⟩)]] 61) := ⟨_, rfl⟩
  have g2 := heap_alloc_new W1 (.cells #[.func (.func 31) #[] #[.pointer (some ⟨N, 0, none⟩)]] 61)
  have b2 : Below W1.heap.size W1 (W1.alloc (.cells #[.func (.func 31) #[] #[.pointer (some ⟨N, 0, none⟩)]] 61)) := (Below.refl _ _).alloc (Nat.le_refl _) _
  rw [← hW2] at g2 b2
  have hm2 := hm1.below b2
  have hit2 := hit1.below b2
  have gn2 := (b2.block N hsz).trans gn
  have hsz2 : N < W2.heap.size := Sm.lt_of gn2
  have hsg : W1.heap.size < W2.heap.size := Sm.lt_of g2
  have FI := baFirst_any (w := W2) d hit2 hll (fun o => Ba.why o (Ba.ofE m o.p)) W1.heap.size (fun wx o hb ho => baWhyM_any o (hs o ho) c (hm2.below hb) hml N ((hb.cell (p := ⟨N, 0, none⟩) hsz2).trans (Sm.cells_of gn2 0 _ rfl)) (Nat.lt_of_lt_of_le hsz2 hb.size) W1.heap.size ((hb.cell (p := ⟨W1.heap.size, 0, none⟩) hsg).trans (Sm.cells_of g2 0 _ rfl)) (Nat.lt_of_lt_of_le hsg hb.size))
  have e : Ba.firstE (fun o => Ba.why o (Ba.ofE m o.p)) l = if 4 < l.length then 3 else R12.may m l := by unfold Ba.firstE; rw [Ba.whys_may]
  rw [e] at FI
  obtain ⟨E, hE⟩ : ∃ E : Nat, E = if 4 < l.length then 3 else R12.may m l := ⟨_, rfl⟩
  rw [← hE] at FI ⊢
  have HF := Lib.hid FI
  have WN := Lib.hid (baWhyNot_any W1 31 #[.pointer (some ⟨N, 0, none⟩)])
  rw [← hW2] at WN
  have hNW : N ≤ W1.heap.size := Nat.le_of_lt hsz
  have B2 := Lib.hid (b1.trans (b2.mono hNW))
  have hNW2 : N ≤ W2.heap.size := Nat.le_of_lt hsz2
  have HW := Lib.hid hW
  have HN := Lib.hid hN
  clear hm hit hs gn b1 hm1 hit1 hsz g2 b2 hm2 hit2 gn2 hsz2 hsg FI e hW hN hW2 h0 hE
  go_enter Try.func14, Try.ntmps14
  go_wp2_with fail
  rw [← HN.out, ← HW.out]
  refine WN.out.mono ?_
  rintro e w3 ⟨rfl, rfl⟩
  go_wp2_with fail
  refine HF.out.mono ?_
  rintro e w3 ⟨rfl, b3⟩
  go_wp2
  go_ret
  exact ⟨rfl, B2.out.trans (b3.mono hNW2)⟩
end Go.Proofs.Ytlndggbidmmodaa
