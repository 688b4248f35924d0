/-
  OmapFilters: what is shipped of a map is the document's; the map stays.
-/
import Derived.Test.YtehkbffbehlpnaaOmPlay
import Derived.Test.YtehkbffbehlpnaaR13List
import Derived.Test.YtehkbffbehlpnaaR13Filter
namespace Go.Proofs.Ytehkbffbehlpnaa
open Go.RowKit Go.Maps
namespace Om
/-- A map at r, and the document's in the variable K. -/
structure Both (w W : World) (N r K : Nat) (B : Option Addr) (k : Nat) (l : List Pr) : Prop where
  m : Lies W r l
  v : W.heap[K]? = some (.cells #[.slice B l.length k] 32 (0, 0))
  ref : Ref W B k l
  bel : Below N w W
  low : N ≤ W.heap.size
theorem Both.step {w W W' : World} {N r K : Nat} {B : Option Addr} {k : Nat} {l : List Pr} (h : Both w W N r K B k l) (g : Below W.heap.size W W') : Both w W' N r K B k l :=
  ⟨h.m.below g, (g.block K (Sm.lt_of h.v)).trans h.v, h.ref.below g, h.bel.trans (g.mono h.low), Nat.le_trans h.low g.size⟩
theorem Both.load {w W : World} {N r K : Nat} {B : Option Addr} {k : Nat} {l : List Pr} (h : Both w W N r K B k l) : W.cell? ⟨K, 0, none⟩ = some (.slice B l.length k) := Sm.cells_of h.v 0 _ rfl
theorem run_field (w : World) (A : Option Addr) (n c : Nat) : (Instr.field 32 (.agg #[.slice A n c]) 0).run Try.prog w = .ok (.slice A n c) w := by kernel_rfl
def zOps : List Ba.Op := [⟨1, ⟨#[122, 122, 122, 47, 122]⟩, ⟨#[122]⟩⟩]
theorem zLists {w : World} {b : Nat} (h : w.heap[b]? = some (.cells #[.int .u8 1, .string ⟨#[122, 122, 122, 47, 122]⟩, .string ⟨#[122]⟩] 52 (0, 0))) : Ba.listAt w (some ⟨b, 0, none⟩) zOps := by
  refine .inr ⟨b, 0, rfl, Sm.lt_of h, fun k hk => ?_⟩
  have z := Sm.cells_of h
  have hk1 : k < 1 := hk
  obtain rfl : k = 0 := by omega
  exact ⟨z 0 _ rfl, z 1 _ rfl, z 2 _ rfl⟩
theorem zOk : ∀ o ∈ zOps, o.Ok ∧ o.p.size ≤ 281474976710656 := by
  intro o ho
  simp only [zOps, List.mem_cons, List.not_mem_nil, or_false] at ho
  subst ho
  exact ⟨⟨by decide, by decide, by decide⟩, by decide⟩
end Om
set_option maxRecDepth 100000 in
set_option maxHeartbeats 4000000 in
theorem omapFilters_any {w : World} {A : Option Addr} (c : Nat) {l0 : List Om.Pr} (hl0 : l0.length ≤ 9223372036854775807) (hit : Om.listAt w A l0)
    {C : Option Addr} (d : Nat) {M : List Pa.Mo} (hM : M.length ≤ 9223372036854775807) (hmo : Pa.listAt w C M) :
    Calls Try.prog 4 #[.slice A l0.length c, .slice C M.length d] w fun e w' => e = .returned (.bool true) ∧ Below w.heap.size w w' := by
  obtain ⟨g, hg⟩ := Om.fairL_or l0
  obtain ⟨g2, hg2⟩ := Pa.fair_or M
  have GR := Lib.hid (greatPairs_any (c := c) hit g hg)
  have GO := Lib.hid (great11_any (c := d) hmo g2 hg2)
  have AW := Lib.hid (fun wx => awake13_any wx)
  cases g with
  | true =>
    clear hit hg hmo hg2
    go_enter Try.func4, Try.ntmps4
    go_wp2_with first | (go_at_call 11; refine GR.out.mono ?_; rintro e w' ⟨rfl, rfl⟩) | (go_at_call 13; refine (AW.out _).mono ?_; rintro e w1 ⟨rfl, k1⟩)
    go_ret
    exact ⟨rfl, k1⟩
  | false =>
    cases g2 with
    | true =>
      clear hit hg hmo hg2
      go_enter Try.func4, Try.ntmps4
      go_wp2_with first | (go_at_call 11; refine GR.out.mono ?_; rintro e w' ⟨rfl, rfl⟩) | (go_at_call 27; refine GO.out.mono ?_; rintro e w' ⟨rfl, rfl⟩) | (go_at_call 13; refine (AW.out _).mono ?_; rintro e w1 ⟨rfl, k1⟩)
      go_ret
      exact ⟨rfl, k1⟩
    | false =>
      have hf : Om.FairL l0 := by
        by_cases h : Om.FairL l0
        · exact h
        · have := hg.2 h; cases this
      obtain ⟨N, hN⟩ : ∃ N, N = w.heap.size := ⟨_, rfl⟩
      have HN := Lib.hid hN
      have OF := Lib.hid (omOf_lies c hit hl0 (fun x hx => by have := (hf.mem x hx).1; omega))
      have RO : Hid (∀ wx : World, Below N w wx → Calls Try.prog 15 #[.slice A l0.length c] wx fun e w' => Om.OfRef wx w' e (Om.ofE l0)) := fun wx k => r13Of_any c (hit.below (by rw [← hN]; exact k)) hl0 (fun x hx => by have := (hf.mem x hx).1; omega)
      have HMO : Hid (∀ wx : World, Below N w wx → Pa.listAt wx C M) := fun wx k => hmo.below (by rw [← hN]; exact k)
      obtain ⟨E, hE⟩ : ∃ E, E = (Om.ofE l0).2 := ⟨_, rfl⟩
      obtain ⟨l, hl⟩ : ∃ l, l = (Om.ofE l0).1 := ⟨_, rfl⟩
      rw [← hE, ← hl] at OF
      unfold Om.OfRef at RO
      rw [← hE, ← hl] at RO
      have hEE : ((E : Int) != (E : Int)) = false := by simp
      rw [← hN] at OF
      by_cases h0 : E = 0
      · have hEb : ((E : Int) != 0) = false := by rw [h0]; rfl
        have HE0 : Hid (E = 0) := h0
        have hll : l.length ≤ 48 := by rw [hl]; exact (Om.ofE_good (by rw [← hE]; exact h0)).len
        have HLM : Hid (l.length ≤ 1000000) := by show l.length ≤ 1000000; omega
        have FI := Lib.hid (fun (wx : World) (r : Nat) (h : Om.Lies wx r l) (hb : Below N w wx) => omFilter_lies h d (HMO.out wx hb) hM)
        have RF := Lib.hid (fun (wx : World) (B : Option Addr) (k : Nat) (h : Om.Ref wx B k l) (hG : Om.Good l) (hb : Below N w wx) => r13Filter_any h hG d (HMO.out wx hb) hM)
        have AL := Lib.hid (fun (wx : World) (r : Nat) (m : List Om.Pr) (h : Om.Lies wx r m) => omAll_lies h)
        have SA := Lib.hid (fun (wx : World) (A B : Option Addr) (c d : Nat) (m : List Om.Pr) (h1 : Om.listAt wx A m) (h2 : Om.listAt wx B m) (hm : m.length ≤ 1000000) => r13Same_any c d h1 h2 hm true (by simp))
        have DZ : Hid (∀ (wx : World) (r b : Nat) (m : List Om.Pr), Om.Lies wx r m → wx.heap[b]? = some (.cells #[.int .u8 1, .string ⟨#[122, 122, 122, 47, 122]⟩, .string ⟨#[122]⟩] 52 (0, 0)) → Calls Try.prog 17 #[.pointer (some ⟨r, 0, none⟩), .slice (some ⟨b, 0, none⟩) 1 1] wx fun e w' => ∃ q : Nat, e = .returned (.int .i64 (q : Nat)) ∧ wx.grownBy w' (some r)) := fun wx r b m h1 h2 =>
          (omDo_lies h1 1 (Om.zLists h2) (by decide) (fun o ho => (Om.zOk o ho).1) (fun o ho => (Om.zOk o ho).2)).mono fun e w' ⟨k1, _, k3⟩ => ⟨_, k1, k3⟩
        obtain ⟨F, hF⟩ : ∃ F, F = Om.filt (Om.ships M) l := ⟨_, rfl⟩
        have hFl : F.length ≤ 1000000 := by rw [hF]; have := Om.filt_le (Om.ships M) l; omega
        have HFL := Lib.hid hFl
        rw [← hF] at FI RF
        rw [← hN]
        clear hit hmo hg hg2 hf hE hl h0 hll hF hFl hN
        go_enter Try.func4, Try.ntmps4
        go_upto_region 4 with first
          | (go_at_call 11; refine GR.out.mono ?_; rintro e w' ⟨rfl, rfl⟩)
          | (go_at_call 27; refine GO.out.mono ?_; rintro e w' ⟨rfl, rfl⟩)
          | (go_at_call 14; refine OF.out.mono ?_; rintro e w1 ⟨v1, rfl, hn1, hz1, kb1⟩)
        obtain ⟨r, rfl, hr, hli⟩ := hz1 HE0.out
        have KB1 := Lib.hid kb1
        have LI1 := Lib.hid hli
        clear hn1 hz1 kb1 hli
        go_upto_region 5 with (go_at_call 15; refine (RO.out w1 KB1.out).mono ?_; rintro e w2 ⟨B, k, rfl, hr2, kb2⟩)
        have BO : Hid (Om.Both w (w2.alloc (.cells #[.slice B l.length k] 32)) N r w2.heap.size B k l) :=
          ⟨(LI1.out.below kb2).below ((Below.refl _ w2).alloc (Nat.le_refl _) _), heap_alloc_new _ _, hr2.below ((Below.refl _ w2).alloc (Nat.le_refl _) _), (KB1.out.trans (kb2.mono (by rw [HN.out]; exact KB1.out.size))).alloc (by rw [HN.out]; exact Nat.le_trans KB1.out.size kb2.size) _, by rw [HN.out]; simp; exact Nat.le_succ_of_le (Nat.le_trans KB1.out.size kb2.size)⟩
        obtain ⟨K, hK⟩ : ∃ K, K = w2.heap.size := ⟨_, rfl⟩
        rw [← hK] at BO ⊢
        generalize w2.alloc (.cells #[.slice B l.length k] 32) = w3 at BO ⊢
        clear hr2 kb2 hK KB1 LI1 GR GO OF RO hr
        go_upto_region 10 with first
          | (go_at_call 28; refine (FI.out _ _ BO.out.m BO.out.bel).mono ?_; rintro e w4 ⟨q4, rfl, hq4, l4, k4⟩)
        have g5 := heap_alloc_new w4 (.cells #[.int .u8 1, .string ⟨#[122, 122, 122, 47, 122]⟩, .string ⟨#[122]⟩] 52)
        have L5 := l4.below ((Below.refl _ w4).alloc (Nat.le_refl _) (.cells #[.int .u8 1, .string ⟨#[122, 122, 122, 47, 122]⟩, .string ⟨#[122]⟩] 52))
        have k5 : Below w3.heap.size w3 (w4.alloc (.cells #[.int .u8 1, .string ⟨#[122, 122, 122, 47, 122]⟩, .string ⟨#[122]⟩] 52)) := k4.alloc k4.size _
        have HQ4 := Lib.hid hq4
        have G5 := Lib.hid g5
        have L5 := Lib.hid L5
        have K5 := Lib.hid k5
        clear g5 k5 hq4 l4 k4
        go_upto_region 11 with (go_at_call 17; refine (DZ.out _ _ _ _ L5.out G5.out).mono ?_; rintro e w6 ⟨eq, rfl, g6⟩; have B6 := Lib.hid (BO.out.step (K5.out.grown g6 K5.out.size (fun q hq => by cases hq; exact HQ4.out))); clear g6)
        have B7 := Lib.hid (B6.out.step (Below.refl _ w6).drew)
        clear BO L5 G5 K5 HQ4 DZ
        have hfd := fun wx A c => Om.run_field wx A F.length c
        go_region_held3 (fun w' => w'.cell? ⟨K, 0, none⟩ = some (.slice B l.length k))
          (first | (with_reducible exact B7.out.load) | (with_reducible exact B8.out.load) | (with_reducible exact B9.out.load) | (with_reducible exact B10.out.load) | (with_reducible exact B11.out.load) | (with_reducible exact B12.out.load) | (with_reducible exact B13.out.load) | (with_reducible exact B14.out.load))
          ((first
            | (go_at_call 28; refine (FI.out _ _ B7.out.m B7.out.bel).mono ?_; rintro e w8 ⟨q8, rfl, _, l8, k8⟩; have B8 := Lib.hid (B7.out.step k8); have L8 := Lib.hid l8; clear l8 k8)
            | (go_at_call 23; with_reducible refine (AL.out _ _ _ L8.out).mono ?_; rintro e w9 ⟨A9, c9, rfl, r9, k9⟩; have B9 := Lib.hid (B8.out.step k9); have R9 := Lib.hid r9.listAt; clear r9 k9)
            | (go_at_call 29; refine (RF.out _ _ _ B9.out.ref B9.out.m.good B9.out.bel).mono ?_; rintro e w10 ⟨A10, c10, rfl, r10, k10⟩; have B10 := Lib.hid (B9.out.step k10); have R10 := Lib.hid r10.listAt; have R9' := Lib.hid (R9.out.below k10); clear r10 k10)
            | (go_at_call 22; with_reducible refine (SA.out _ _ _ _ _ _ R9'.out R10.out HFL.out).mono ?_; rintro e w11 ⟨rfl, k11⟩; have B11 := Lib.hid (B10.out.step k11); clear k11)
            | (go_at_call 23; with_reducible refine (AL.out _ _ _ B11.out.m).mono ?_; rintro e w12 ⟨A12, c12, rfl, r12, k12⟩; have B12 := Lib.hid (B11.out.step k12); have R12 := Lib.hid r12.listAt; clear r12 k12)
            | (go_at_call 13; refine (AW.out _).mono ?_; rintro e w14 ⟨rfl, k14⟩; have B14 := Lib.hid (B13.out.step k14); clear k14)
            | (go_at_call 22; refine (SA.out _ _ _ _ _ _ R12.out B12.out.ref.1 HLM.out).mono ?_; rintro e w13 ⟨rfl, k13⟩; have B13 := Lib.hid (B12.out.step k13); clear k13)))
        go_wp2
        go_ret
        exact ⟨rfl, B14.out.bel⟩
      · have hEb : ((E : Int) != 0) = true := by rw [bne_iff_ne]; omega
        rw [← hN]
        clear hit hmo hg hg2 hf hE hl h0 hN
        go_enter Try.func4, Try.ntmps4
        go_wp2_with first
          | (go_at_call 11; refine GR.out.mono ?_; rintro e w' ⟨rfl, rfl⟩)
          | (go_at_call 27; refine GO.out.mono ?_; rintro e w' ⟨rfl, rfl⟩)
          | (go_at_call 14; refine OF.out.mono ?_; rintro e w1 ⟨v1, rfl, -, -, kb1⟩; have KB1 := Lib.hid kb1; clear kb1)
          | (go_at_call 15; refine (RO.out w1 KB1.out).mono ?_; rintro e w2 ⟨B, k, rfl, -, kb2⟩; have KB2 : Hid (Below N w w2) := KB1.out.trans (kb2.mono (by rw [HN.out]; exact KB1.out.size)); clear kb2)
          | (go_at_call 13; refine (AW.out _).mono ?_; rintro e w3 ⟨rfl, k3⟩)
        go_ret
        have HK2 : Below N w (w2.alloc (.cells #[.slice B l.length k] 32)) := KB2.out.alloc (by rw [HN.out]; exact KB2.out.size) _
        exact ⟨rfl, HK2.trans (k3.mono (by rw [HN.out]; exact HK2.size))⟩
end Go.Proofs.Ytehkbffbehlpnaa
