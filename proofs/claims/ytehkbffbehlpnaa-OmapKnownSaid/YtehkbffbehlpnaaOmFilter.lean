/-
  omap's Filter and Of.
-/
import Derived.Test.YtehkbffbehlpnaaOmPut
import Derived.Test.YtehkbffbehlpnaaPaShips
namespace Go.Proofs.Ytehkbffbehlpnaa
open Go.RowKit Go.Maps
namespace Om
theorem Good.filt {l : List Pr} (h : Good l) (s : ByteArray → Bool) : Good (filt s l) :=
  ⟨filt_rises h.rises, fun x hx => h.fair x (List.mem_filter.1 hx).1, Nat.le_trans (filt_le s l) h.len⟩
/-- What of a path is shipped. -/
def ships (L : List Pa.Mo) (p : ByteArray) : Bool := Pa.ships L p.data.toList
end Om
set_option maxRecDepth 100000 in
set_option maxHeartbeats 2000000 in
theorem omFilter_any {w : World} {v : Value} {mb : Option Nat} {l : List Om.Pr} (h : Om.Ptr w v mb l) (hG : Om.Good l) {A : Option Addr} {L : List Pa.Mo} (c : Nat) (hit : Pa.listAt w A L) (hL : L.length ≤ 9223372036854775807) :
    Calls Try.prog 28 #[v, .slice A L.length c] w fun e w' => (∃ r mb', e = .returned (.pointer (some ⟨r, 0, none⟩)) ∧ w.heap.size ≤ r ∧ Om.At w' r mb' (Om.filt (Om.ships L) l)) ∧ Below w.heap.size w w' := by
  obtain ⟨N, hN⟩ : ∃ N, N = w.heap.size := ⟨_, rfl⟩
  have HN := Lib.hid hN
  have HIT := Lib.hid (fun (wx : World) (k : Below w.heap.size w wx) => hit.below k)
  have hmm := @run_makeMap Try.prog
  obtain ⟨w1, hw1⟩ : ∃ w1, w1 = w.alloc (.map #[] 0) := ⟨_, rfl⟩
  have B1 : Below w.heap.size w w1 := by rw [hw1]; exact (Below.refl _ w).alloc (Nat.le_refl _) _
  have hm1 : Om.MapP w1 N [] := by rw [hw1, hN]; exact Om.MapAt.made w
  have hsz : w1.heap.size = N + 1 := by rw [hw1, hN]; simp
  have C := Lib.hid (omHas_any (h.below B1 (Nat.le_refl _)))
  have hh := Om.Has.belowP h.has B1 (Nat.le_refl _)
  have HOLD : Hid (∀ b, mb = some b → b < N) := fun b hb => by rw [hN]; exact h.has.lt hb
  have HG := Lib.hid hG
  clear h hit hG
  obtain ⟨s, hs⟩ : ∃ s, s = Om.ships L := ⟨_, rfl⟩
  rw [← hs, ← hN]
  have HS := Lib.hid hs
  rw [← hN] at HIT B1
  have HM1 := Lib.hid hm1
  have HB1 := Lib.hid B1
  have HSZ := Lib.hid hsz
  clear hs hm1 B1 hsz
  go_enter Try.func28, Try.ntmps28
  go_upto_region 2 with (fail)
  rw [← hN, ← hw1]
  clear hN hw1 hmm
  rcases hh with ⟨rfl, rfl⟩ | ⟨b, rfl, hh⟩
  · have hrg := run_range_nilMap (P := Try.prog) w1 69 _ _ Try.underlying69
    have hnx : ∀ ty, (Instr.next (.pointer (some ⟨w1.heap.size, 0, none⟩)) false ty).run Try.prog (w1.alloc (.mapIter none 0 #[] 0)) = _ := fun ty => run_next_nilMap _ ty 0 0 #[]
    go_wp2_with (go_at_call 46; refine C.out.mono ?_; rintro e w' ⟨rfl, rfl⟩)
    refine wp_loop_rounds 1 ?_
    rw [rounds_succ]
    go_wp2
    go_ret
    have hb : Below N w (w1.alloc (.mapIter none 0 #[] 0)) := HB1.out.alloc (by rw [HSZ.out]; omega) _
    refine ⟨⟨_, some N, rfl, ?_, by simpa using heap_alloc_new (w1.alloc (.mapIter none 0 #[] 0)) (.cells #[.map (some N)] 74), .inr ⟨N, rfl, ?_⟩⟩, hb.alloc (by simp; rw [HSZ.out]; omega) _⟩
    · rw [HSZ.out]; omega
    · exact (HM1.out.block ((Below.heap_alloc _ _ _ (by simp; rw [HSZ.out]; omega)).trans (Below.heap_alloc _ _ _ (by rw [HSZ.out]; omega))))
  · have hbN : b < N := HOLD.out b rfl
    have hR := hh.rises
    obtain ⟨w2, hrun, hrg0, hg0, hs0⟩ := hh.range Try.underlying9 Try.underlying69
    obtain ⟨M, hM⟩ : ∃ M, M = w1.heap.size := ⟨_, rfl⟩
    have HM := Lib.hid hM
    rw [← hM] at hrun hrg0
    have HR0 := Lib.hid hrg0
    have HM2 := Lib.hid (HM1.out.block (hg0.block N HM1.out.lt (by simp)))
    have HB2 : Hid (Below N w w2) := HB1.out.grown hg0 (by rw [HSZ.out]; omega) (fun k hk => by cases hk)
    have HRI := Lib.hid hR
    have HBN := Lib.hid hbN
    go_wp2_with (go_at_call 46; refine C.out.mono ?_; rintro e w' ⟨rfl, rfl⟩)
    rw [← hM]
    clear hh hrun hrg0 hg0 hs0 hR hbN C hM
    go_loopw [12] (fun _ wr => ∃ (left : ByteArray → Bool) (cnt : Nat) (m : List Om.Pr), Om.RangeAt Try.prog 9 wr b M l left cnt ∧ Om.MapP wr N m ∧ (∀ q, Om.get q m = if left q then none else Om.get q (Om.filt s l)) ∧ m.length + cnt ≤ l.length ∧ Below N w wr) (fun _ wr => wr.rangeLeft b M)
    case atStart =>
      refine ⟨_, l.length, [], HR0.out, HM2.out, fun q => ?_, by simp, HB2.out⟩
      rw [Om.get_filt q HRI.out]
      cases hq : Om.get q l <;> simp [Om.get]
    case round =>
      clear HR0 HM2 HB2
      obtain ⟨left, cnt, m, hrg, hm, hget, hcnt, hb⟩ := hrel
      have HRG := Lib.hid hrg
      have HMM := Lib.hid hm
      have HGET := Lib.hid hget
      have HC := Lib.hid hcnt
      have HB := Lib.hid hb
      rcases hrg.next Try.underlying9 0 with ⟨hall, hnext⟩ | ⟨p, v1, w3, cnt2, hl, hF, hp, hnext, hrg2, hlt, hg2, hs2, hen⟩
      · have HALL := Lib.hid hall
        clear hrg hm hget hcnt hb hall
        go_wp2
        go_ret
        have e : m = Om.filt s l := Om.rises_ext HMM.out.rises (Om.filt_rises HRI.out) fun q => by rw [HGET.out q, HALL.out q]; rfl
        subst e
        exact ⟨⟨_, some N, rfl, Nat.le_of_lt (Nat.lt_of_lt_of_le HMM.out.lt (Nat.le_refl _)), heap_alloc_new _ _, .inr ⟨N, rfl, HMM.out.block (Below.heap_alloc _ _ _ HMM.out.lt)⟩⟩, HB.out.alloc (Nat.le_of_lt HMM.out.lt) _⟩
      · have hm2 : Om.MapP w3 N m := hm.block (hg2.block N hm.lt fun e => by
          obtain ⟨m', s', sn, c', hit⟩ := hrg.iter
          obtain ⟨es, c, hk⟩ := hm.kind
          rw [← Option.some.inj e, hk] at hit; cases hit)
        have hNM : N ≤ M := by rw [HM.out, HSZ.out]; omega
        have hb3 : Below N w w3 := hb.grown hg2 (Nat.le_of_lt hm.lt) (fun k hk => by cases hk; exact hNM)
        have hps : p.size ≤ 281474976710656 := by
          have h1 := Pa.ok_len (HG.out.fair _ ((Om.get_mem HRI.out v1).1 hF)).1
          rw [Ba.ba_size] at h1
          have h2 : p.size ≤ 33 := h1
          omega
        obtain ⟨w4, hw4⟩ : ∃ w4, w4 = w3.alloc (.cells #[.string p, .string v1] 62) := ⟨_, rfl⟩
        have hm4 : Om.MapP w4 N m := by rw [hw4]; exact hm2.block (Below.heap_alloc _ _ _ hm2.lt)
        have hb4 : Below N w w4 := by rw [hw4]; exact hb3.alloc (Nat.le_of_lt hm2.lt) _
        have hrg4 : Om.RangeAt Try.prog 9 w4 b M l (fun q => left q && !decide (q = p)) cnt2 := by rw [hw4]; exact hrg2.block (Below.heap_alloc _ _ _ hrg2.map.lt) (Below.heap_alloc _ _ _ hrg2.lt)
        have gn : w4.heap[w3.heap.size]? = some (.cells #[.string p, .string v1] 62 (0, 0)) := by rw [hw4]; exact heap_alloc_new _ _
        have SH := Lib.hid (paShips_any c (HIT.out w4 hb4) hL p hps)
        obtain ⟨K, hK⟩ : ∃ K, K = w3.heap.size := ⟨_, rfl⟩
        rw [← hK] at gn
        have HGN := Lib.hid gn
        have HM4 := Lib.hid hm4
        have HB4 := Lib.hid hb4
        have HR4 := Lib.hid hrg4
        have HLT := Lib.hid hlt
        have HF := Lib.hid hF
        have HPS := Lib.hid hps
        have HLP := Lib.hid hl
        have HSP : Hid (Om.ships L p = s p) := by show _ = _; rw [HS.out]
        clear hrg hm hget hcnt hb hm2 hNM hb3 hps hm4 hb4 hrg4 gn hrg2 hlt hg2 hs2 hF hl hp
        go_upto_region 5 with (fail)
        rw [← hK, ← hw4]
        clear hK hw4
        change Hid (Calls _ _ _ _ fun e w' => e = .returned (.bool (Om.ships L p)) ∧ _) at SH
        rw [HSP.out] at SH
        cases hsp : s p with
        | false =>
          rw [hsp] at SH
          have HSF := Lib.hid hsp
          clear hsp
          go_wp2_with (go_at_call 51; refine SH.out.mono ?_; rintro e w5 ⟨rfl, k5⟩)
          have K5 := Lib.hid k5
          clear k5
          have hR5 := HR4.out.block (K5.out.block b HR4.out.map.lt) (K5.out.block M HR4.out.lt)
          have HR5 := Lib.hid hR5
          clear hR5
          go_roundw
          case rel =>
            refine ⟨_, cnt2, m, HR5.out, HM4.out.block (K5.out.block N HM4.out.lt), fun q => ?_, by have := HC.out; have := HLT.out; omega, HB4.out.trans (K5.out.mono (Nat.le_of_lt HM4.out.lt))⟩
            rw [HGET.out q, Om.get_filt q HRI.out]
            by_cases hq : q = p
            · subst hq
              rw [HSF.out]
              simp
            · simp [hq]
          case measure => rw [HR5.out.left_eq, HRG.out.left_eq]; exact HLT.out
        | true =>
          rw [hsp] at SH
          have HSF := Lib.hid hsp
          clear hsp
          go_upto_region 6 with (go_at_call 51; refine SH.out.mono ?_; rintro e w5 ⟨rfl, k5⟩)
          have K5 := Lib.hid k5
          clear k5
          have g5 := (K5.out.block K (Sm.lt_of HGN.out)).trans HGN.out
          have x0 := Sm.cells_of g5 0 _ rfl
          have x1 := Sm.cells_of g5 1 _ rfl
          have hR5 := HR4.out.block (K5.out.block b HR4.out.map.lt) (K5.out.block M HR4.out.lt)
          have hM5 := HM4.out.block (K5.out.block N HM4.out.lt)
          obtain ⟨w6, hup, hm6, ht6⟩ := hM5.store Try.underlying9 Try.underlying69 (by have := HC.out; have := HG.out.len; unfold maxLen; omega) (show p.size ≤ maxLen by have := HPS.out; unfold maxLen; omega) v1
          have hg6 := ht6.grown
          have HR6 := Lib.hid (hR5.block (hg6.block b hR5.map.lt fun e => by have := HBN.out; have := Option.some.inj e; omega) (hg6.block M hR5.lt fun e => by have h1 := HM.out; have h2 := HSZ.out; have := Option.some.inj e; omega))
          have HM6 := Lib.hid hm6
          have HB6 : Hid (Below N w w6) := (HB4.out.trans (K5.out.mono (Nat.le_of_lt HM4.out.lt))).grown hg6 (Nat.le_of_lt hM5.lt) (fun k hk => by cases hk; exact Nat.le_refl _)
          clear g5 hR5 hM5 hm6 ht6 hg6
          go_wp2
          go_roundw
          case rel =>
            refine ⟨_, cnt2, _, HR6.out, HM6.out, fun q => ?_, ?_, HB6.out⟩
            · rw [Om.get_put q HMM.out.rises, HGET.out q, Om.get_filt q HRI.out]
              by_cases hq : q = p
              · subst hq
                rw [if_pos rfl, HSF.out]
                simp [HF.out]
              · rw [if_neg hq]
                simp [hq]
            · rw [Om.put_length]
              have := HC.out
              have := HLT.out
              split <;> omega
          case measure => rw [HR6.out.left_eq, HRG.out.left_eq]; exact HLT.out
namespace Om
theorem ofL_nil (m : List Pr) : ofL m [] = (m, 0) := rfl
theorem ofL_bad {m r : List Pr} {x : Pr} (h : ¬ Fair x) : ofL m (x :: r) = ([], 1) := by
  unfold ofL
  rw [if_pos]
  unfold Fair at h
  cases hk : Pa.ok x.p.data.toList with
  | false => exact .inl rfl
  | true => right; have : ¬ x.v.size ≤ 32 := fun e => h ⟨hk, e⟩; omega
theorem fair_not {x : Pr} (h : Fair x) : ¬ (Pa.ok x.p.data.toList = false ∨ 32 < x.v.size) := by
  rintro (h1 | h1)
  · rw [h.1] at h1; cases h1
  · have := h.2; omega
theorem ofL_there {m r : List Pr} {x : Pr} (h : Fair x) (h2 : (get x.p m).isSome = true) : ofL m (x :: r) = ([], 5) := by
  unfold ofL
  rw [if_neg (fair_not h), if_pos h2]
theorem ofL_more {m r : List Pr} {x : Pr} (h : Fair x) (h2 : (get x.p m).isSome = false) : ofL m (x :: r) = ofL (put x.p x.v m) r := by
  rw [ofL, if_neg (fair_not h), if_neg (by rw [h2]; decide)]
theorem put_fair {m : List Pr} (h : ∀ x ∈ m, Fair x) {x : Pr} (hx : Fair x) : ∀ y ∈ put x.p x.v m, Fair y := fun y hy => by
  rcases mem_put hy with rfl | hy
  · exact hx
  · exact h y hy
theorem ofL_good : ∀ {l m : List Pr}, Rises m → (∀ x ∈ m, Fair x) → m.length + l.length ≤ 48 → (ofL m l).2 = 0 → Good (ofL m l).1
  | [], m, h1, h2, h3, _ => ⟨h1, h2, by rw [ofL_nil]; simpa using h3⟩
  | x :: r, m, h1, h2, h3, h4 => by
    by_cases hf : Fair x
    · cases hg : (get x.p m).isSome with
      | true => rw [ofL_there hf hg] at h4; cases h4
      | false =>
        rw [ofL_more hf hg] at h4 ⊢
        refine ofL_good (put_rises h1) (put_fair h2 hf) ?_ h4
        rw [put_length, hg]
        simp only [List.length_cons] at h3
        simp
        omega
    · rw [ofL_bad hf] at h4; cases h4
theorem ofE_good {l : List Pr} (h : (ofE l).2 = 0) : Good (ofE l).1 := by
  unfold ofE at h ⊢
  split at h
  · cases h
  · rename_i hn
    rw [if_neg hn]
    exact ofL_good List.Pairwise.nil (fun x hx => by simp at hx) (by simp; omega) h
/-- What Of told: a map, or none. -/
def OfPost (w w' : World) (e : Ending) (R : List Pr × Nat) : Prop :=
  ∃ v mb, e = .returned (.tuple #[v, .int .i64 (R.2 : Nat)]) ∧ (R.2 ≠ 0 → v = .pointer none) ∧ (R.2 = 0 → ∃ r, v = .pointer (some ⟨r, 0, none⟩) ∧ w.heap.size ≤ r ∧ At w' r mb R.1) ∧ Below w.heap.size w w'
theorem OfPost.nope {w w' : World} {e : Ending} {R : List Pr × Nat} (hR : R.2 ≠ 0) (he : e = .returned (.tuple #[.pointer none, .int .i64 (R.2 : Nat)])) (hb : Below w.heap.size w w') : OfPost w w' e R :=
  ⟨_, none, he, fun _ => rfl, fun h => absurd h hR, hb⟩
end Om
set_option maxRecDepth 100000 in
set_option maxHeartbeats 2000000 in
theorem omOf_any {w : World} {A : Option Addr} {l : List Om.Pr} (c : Nat) (hit : Om.listAt w A l) (hn : l.length ≤ 9223372036854775807) (hs : ∀ x ∈ l, x.p.size ≤ 281474976710656) :
    Calls Try.prog 14 #[.slice A l.length c] w fun e w' => Om.OfPost w w' e (Om.ofE l) := by
  have hmm := @run_makeMap Try.prog
  by_cases h48 : 48 < l.length
  · have hi : (48 : Int) < (l.length : Int) := by omega
    rw [show Om.ofE l = ([], 6) by unfold Om.ofE; rw [if_pos h48]]
    clear hit hs h48
    go_enter Try.func14, Try.ntmps14
    go_wp2
    go_ret2
    exact Om.OfPost.nope (by decide) rfl (Below.refl _ _)
  have hi : ¬ (48 : Int) < (l.length : Int) := by omega
  rw [show Om.ofE l = Om.ofL [] l by unfold Om.ofE; rw [if_neg h48]]
  obtain ⟨N, hN⟩ : ∃ N, N = w.heap.size := ⟨_, rfl⟩
  have HN := Lib.hid hN
  have HIT : Hid (∀ wx : World, Below N w wx → ∀ j (hj : j < l.length), ∃ b off, A = some ⟨b, off, none⟩ ∧ b < w.heap.size ∧ Om.prAt wx b (off + j * 2) l[j]) := fun wx k j hj => hit.get (by rw [← hN]; exact k) j hj
  obtain ⟨w1, hw1⟩ : ∃ w1, w1 = w.alloc (.map #[] 0) := ⟨_, rfl⟩
  have HB1 : Hid (Below N w w1) := by show Below N w w1; rw [hw1, hN]; exact (Below.refl _ w).alloc (Nat.le_refl _) _
  have HM1 : Hid (Om.MapP w1 N []) := by show Om.MapP w1 N []; rw [hw1, hN]; exact Om.MapAt.made w
  obtain ⟨R, hR⟩ : ∃ R, R = Om.ofL [] l := ⟨_, rfl⟩
  rw [← hR]
  have HR : Hid (Om.ofL [] (l.drop 0) = R) := by show _ = _; rw [List.drop_zero]; exact hR.symm
  have HS := Lib.hid hs
  have HL : Hid (l.length ≤ 48) := by show l.length ≤ 48; omega
  clear hit hs hR h48
  go_enter Try.func14, Try.ntmps14
  go_upto_region 4 with (fail)
  rw [← hN, ← hw1]
  clear hN hw1 hmm hi
  go_wp2
  go_loopw [15] (fun s wr => ∃ (k : Nat) (m : List Om.Pr), s = .int .i64 k ∧ k ≤ l.length ∧ Om.MapP wr N m ∧ m.length ≤ k ∧ Hid (Om.ofL m (l.drop k) = R) ∧ Below N w wr) (fun s _ => l.length - (intOf s).toNat)
  case atStart => exact ⟨0, [], rfl, Nat.zero_le _, HM1.out, Nat.le_refl _, HR.out, HB1.out⟩
  case round =>
    clear HM1 HB1 HR
    obtain ⟨k, m, rfl, hk, hm, hml, hr, hb⟩ := hrel
    have HM := Lib.hid hm
    have HB := Lib.hid hb
    have HML := Lib.hid hml
    clear hm hb hml
    by_cases hlt : k < l.length
    · have hki : (k : Int) < (l.length : Int) := by omega
      have hsuc : IntKind.i64.wrap ((k : Int) + 1) = ((k + 1 : Nat) : Int) := by simp [IntKind.wrap, IntKind.bits, IntKind.signed]; omega
      obtain ⟨gb, off, rfl, hgl, o0, o1⟩ := HIT.out _ HB.out k hlt
      have hrd := hr.out
      rw [List.drop_eq_getElem_cons hlt] at hrd
      have hso := HS.out _ (List.getElem_mem hlt)
      obtain ⟨x, hx⟩ : ∃ x, x = l[k] := ⟨_, rfl⟩
      rw [← hx] at o0 o1 hrd hso
      have HLT := Lib.hid hlt
      have hNle : N ≤ wr.heap.size := Nat.le_of_lt HM.out.lt
      obtain ⟨q, hq⟩ : ∃ q, q = wr.heap.size := ⟨_, rfl⟩
      obtain ⟨w2, hw2⟩ : ∃ w2, w2 = wr.alloc (.cells #[.string x.p, .string x.v] 62) := ⟨_, rfl⟩
      have gn : w2.heap[q]? = some (.cells #[.string x.p, .string x.v] 62 (0, 0)) := by rw [hw2, hq]; exact heap_alloc_new _ _
      have HM2 : Hid (Om.MapP w2 N m) := by show Om.MapP w2 N m; rw [hw2]; exact HM.out.block (Below.heap_alloc _ _ _ HM.out.lt)
      have HB2 : Hid (Below N w w2) := by show Below N w w2; rw [hw2]; exact HB.out.alloc hNle _
      have x0 := Sm.cells_of gn 0 _ rfl
      have x1 := Sm.cells_of gn 1 _ rfl
      have HGN := Lib.hid gn
      obtain ⟨f, hf⟩ : ∃ f : Bool, f = true ↔ Om.Fair x := ⟨decide (Pa.ok x.p.data.toList = true ∧ x.v.size ≤ 32), by rw [decide_eq_true_eq]; rfl⟩
      have IP := Lib.hid (omIsPair_any w2 x.p x.v hso f hf)
      have HF := Lib.hid hf
      have HRD := Lib.hid hrd
      have HSO := Lib.hid hso
      clear hr hrd gn hx hf hso
      clear hlt
      go_upto_region 7 with (fail)
      rw [← hq, ← hw2]
      clear hq hw2
      cases f with
      | false =>
        have hR : R = ([], 1) := by rw [← HRD.out]; exact Om.ofL_bad (fun e => by have := HF.out.2 e; cases this)
        have HRR := Lib.hid hR
        clear hR
        go_wp2_with (go_at_call 37; refine IP.out.mono ?_; rintro e w3 ⟨rfl, k3⟩)
        go_ret2
        rw [HRR.out]
        exact Om.OfPost.nope (by decide) rfl (by rw [← HN.out]; exact HB2.out.trans (k3.mono (Nat.le_of_lt HM2.out.lt)))
      | true =>
        have HFX : Hid (Om.Fair x) := HF.out.1 rfl
        have hvs : x.v.size ≤ 32 := HFX.out.2
        have HVS := Lib.hid hvs
        clear hvs
        have hlk := fun (wx : World) (kx : Below w2.heap.size w2 wx) => (HM2.out.block (kx.block N HM2.out.lt)).look_ok Try.underlying9 Try.underlying69 (Om.zero_pair wx) (show x.p.size ≤ maxLen by have := HSO.out; unfold maxLen; omega)
        have HLK := Lib.hid hlk
        clear hlk
        go_upto_region 9 with (go_at_call 37; refine IP.out.mono ?_; rintro e w3 ⟨rfl, k3⟩)
        have hlk := HLK.out w3 k3
        have g3 := (k3.block q (Sm.lt_of HGN.out)).trans HGN.out
        have y0 := Sm.cells_of g3 0 _ rfl
        have y1 := Sm.cells_of g3 1 _ rfl
        have HG3 := Lib.hid g3
        have HM3 := Lib.hid (HM2.out.block (k3.block N HM2.out.lt))
        have HB3 : Hid (Below N w w3) := HB2.out.trans (k3.mono (Nat.le_of_lt HM2.out.lt))
        have e : ∃ a b : ByteArray, Om.lookV m x.p Om.zeroP = .agg #[.string a, .string b] := by
          cases hg : Om.get x.p m with
          | none => exact ⟨⟨#[]⟩, ⟨#[]⟩, by rw [Om.lookV_none _ hg]; rfl⟩
          | some u => exact ⟨x.p, u, by rw [Om.lookV_some _ hg]; rfl⟩
        obtain ⟨a, b, hab⟩ := e
        rw [hab] at hlk
        clear hab k3 g3 x0 x1 HLK IP
        cases hth : (Om.get x.p m).isSome with
        | true =>
          rw [hth] at hlk
          have hR : R = ([], 5) := by rw [← HRD.out]; exact Om.ofL_there HFX.out hth
          have HRR := Lib.hid hR
          clear hR hth
          go_wp2
          go_ret2
          rw [HRR.out]
          exact Om.OfPost.nope (by decide) rfl (by rw [← HN.out]; exact HB3.out.alloc (Nat.le_of_lt HM3.out.lt) _)
        | false =>
          rw [hth] at hlk
          have HNX : Hid (Om.ofL (Om.put x.p x.v m) (l.drop (k + 1)) = R) := by show _ = _; rw [← HRD.out, Om.ofL_more HFX.out hth]
          obtain ⟨w4, hw4⟩ : ∃ w4, w4 = w3.alloc (.cells #[.string a, .string b] 62) := ⟨_, rfl⟩
          have HM4 : Hid (Om.MapP w4 N m) := by show Om.MapP w4 N m; rw [hw4]; exact HM3.out.block (Below.heap_alloc _ _ _ HM3.out.lt)
          have HB4 : Hid (Below N w w4) := by show Below N w w4; rw [hw4]; exact HB3.out.alloc (Nat.le_of_lt HM3.out.lt) _
          have g4 : w4.heap[q]? = some (.cells #[.string x.p, .string x.v] 62 (0, 0)) := by rw [hw4]; exact (Below.heap_alloc _ _ _ (Sm.lt_of HG3.out)).trans HG3.out
          have CP := Lib.hid (omPut_any HM4.out (by have := HML.out; have := HL.out; omega) x.p x.v HSO.out (by have := HVS.out; omega))
          have z0 := Sm.cells_of g4 0 _ rfl
          have z1 := Sm.cells_of g4 1 _ rfl
          clear hth g4
          go_upto_region 12 with (fail)
          rw [← hw4]
          clear hw4
          go_wp2_with (go_at_call 38; refine CP.out.mono ?_; rintro e w5 ⟨rfl, hm5, hg5⟩)
          have HM5 := Lib.hid hm5
          have HB5 : Hid (Below N w w5) := HB4.out.grown hg5 (by rw [HN.out]; exact HB4.out.size) (fun k hk => by cases hk; exact Nat.le_refl _)
          clear hm5 hg5
          go_roundw
          case rel =>
            refine ⟨k + 1, _, rfl, HLT.out, HM5.out, ?_, HNX.out, HB5.out⟩
            rw [Om.put_length]; have := HML.out; split <;> omega
          case measure => simp only [intOf]; have := HLT.out; omega
    · have hke : k = l.length := by omega
      have hr' := hr.out
      rw [hke, List.drop_length, Om.ofL_nil] at hr'
      clear hr hk
      subst hke
      have HRR := Lib.hid hr'
      clear hr'
      go_wp2
      go_ret2
      rw [← HRR.out]
      exact ⟨_, some N, rfl, fun h => absurd rfl h, fun _ => ⟨_, rfl, HB.out.size, heap_alloc_new _ _, .inr ⟨N, rfl, HM.out.block (Below.heap_alloc _ _ _ HM.out.lt)⟩⟩, by rw [← HN.out]; exact HB.out.alloc (Nat.le_of_lt HM.out.lt) _⟩
end Go.Proofs.Ytehkbffbehlpnaa
