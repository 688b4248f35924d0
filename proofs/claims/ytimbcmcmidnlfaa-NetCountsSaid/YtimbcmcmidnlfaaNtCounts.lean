/-
  NetCounts: what comes was posted, once and once more for each doubling; no link has more than its room.
-/
import Derived.Test.YtimbcmcmidnlfaaNtFind
import Derived.Deep.CutRange
namespace Go.Proofs.Ytimbcmcmidnlfaa
open Go.RowKit
namespace Nt
theorem post_cases (M : Md) (p : Pk) : post M p = ({ M with row := M.row ++ [p] }, 0) ∨ ∃ e : Int, e ≠ 0 ∧ post M p = (M, e) := by
  unfold post put
  split
  · split
    · exact .inr ⟨6, by decide, rfl⟩
    · exact .inl rfl
  · exact .inr ⟨1, by decide, rfl⟩
theorem dup_cases (M : Md) (i : Int) : (there M i = true ∧ dup M i = ({ M with row := M.row ++ [at_ M i] }, 0)) ∨ ∃ e : Int, e ≠ 0 ∧ dup M i = (M, e) := by
  unfold dup put
  split
  · split
    · exact .inr ⟨6, by decide, rfl⟩
    · exact .inl ⟨by assumption, rfl⟩
  · exact .inr ⟨4, by decide, rfl⟩
theorem perm_at {L : List Pk} {k : Nat} (hk : k < L.length) : (L[k] :: (L.take k ++ L.drop (k + 1))).Perm L := by
  have h := (List.perm_middle (a := L[k]) (l₁ := L.take k) (l₂ := L.drop (k + 1))).symm
  rw [← List.drop_eq_getElem_cons hk, List.take_append_drop] at h
  exact h
theorem perm_erase {L R : List Pk} (h : L.Perm R) {k i : Nat} (hk : k < L.length) (hi : i < R.length) (e : L[k] = R[i]) : (L.take k ++ L.drop (k + 1)).Perm (R.eraseIdx i) := by
  rw [List.eraseIdx_eq_take_drop_succ]
  have h3 := ((perm_at hk).trans h).trans (perm_at hi).symm
  rw [e] at h3
  exact h3.cons_inv
end Nt
set_option maxRecDepth 100000 in
set_option maxHeartbeats 16000000 in
theorem netcounts_any (W : World) (A : Option Addr) (c : Nat) (l : List Nt.Ac) (hl : l.length ≤ 9223372036854775807) (hit : Nt.listAt W A l) (hs : ∀ a ∈ l, a.Ok) :
    Calls Try.prog 5 #[.slice A l.length c] W fun e w' => e = .returned (.bool true) ∧ Below W.heap.size W w' := by
  have AW := Lib.hid (awake8_any W)
  obtain ⟨g, hg⟩ := Nt.great_fair l
  have GR : Hid (∀ wx : World, Below W.heap.size W wx → Calls Try.prog 18 #[.slice A l.length c] wx fun e w' => e = .returned (.bool g) ∧ wx = w') := fun wx hx => great8_any hl (hit.below hx) hs g hg
  cases g with
  | true =>
    clear hit hs hg
    go_enter Try.func5, Try.ntmps5
    go_wp2_with fail
    refine (AW.out).mono ?_
    rintro e w1 ⟨rfl, b1⟩
    go_wp2_with fail
    refine (GR.out w1 b1).mono ?_
    rintro e w2 ⟨rfl, rfl⟩
    go_wp2
    go_ret
    exact ⟨rfl, b1⟩
  | false =>
    have hf : Nt.Fair l := by
      by_cases h : Nt.Fair l
      · exact h
      · have := hg.2 h; cases this
    have HF := Lib.hid hf
    have HIT := Lib.hid hit
    have HS := Lib.hid hs
    have h300 := hf.1
    clear hit hs hg hf
    go_enter Try.func5, Try.ntmps5
    go_wp2_with fail
    refine (AW.out).mono ?_
    rintro e w1 ⟨rfl, b1⟩
    go_wp2_with fail
    refine (GR.out w1 b1).mono ?_
    rintro e w2 ⟨rfl, rfl⟩
    go_wp2_with fail
    refine (ntNew_any b1 (Nat.le_refl _)).mono ?_
    rintro e w3 ⟨rfl, o3, -⟩
    generalize w1.heap.size = r at *
    have O3 : Hid (Nt.Own W.heap.size W w3 r (fun q => (Value.slice none 0 0).ownBlock = some q) Nt.new) := o3.label (Below.refl _ _) (fun q hq => by cases hq)
    clear b1 o3 GR AW
    go_wp2
    go_loopw [4, 5, 6, 7, 8, 9, 10, 11, 12] (fun s4 s5 _ _ _ _ _ _ _ wr => ∃ (k : Nat) (M : Nt.Md) (L : List Nt.Pk), s5 = .int .i64 k ∧ k ≤ l.length ∧ Nt.Own W.heap.size W wr r (fun q => s4.ownBlock = some q) M ∧ Nt.PksAt wr W.heap.size s4 L ∧ L.Perm M.row) (fun _ s5 _ _ _ _ _ _ _ _ => l.length - (intOf s5).toNat)
    case atStart => exact ⟨0, Nt.new, [], rfl, Nat.zero_le _, O3.out, World.ownsRow_nil _ _ _ _, List.Perm.refl _⟩
    case round =>
      clear O3
      obtain ⟨k, M, L, rfl, hk, o, q, pr⟩ := hrel
      obtain ⟨Av, cv, hv⟩ := Sm.own_shape q
      subst hv
      by_cases hlt : k < l.length
      · have hlt1 : (k : Int) < l.length := by omega
        obtain ⟨b, off, rfl, hbl, hia⟩ := HIT.out.resolve_left (by rintro rfl; simp at hlt)
        obtain ⟨c0, c1, c2, c3, c4, c5⟩ := (hia k hlt).below o.below hbl
        have hok := HS.out _ (List.getElem_mem hlt)
        have hdl := HF.out.data (List.getElem_mem hlt)
        obtain ⟨x, hx⟩ : ∃ x, x = l[k] := ⟨_, rfl⟩
        rw [← hx] at c0 c1 c2 c3 c4 c5 hok hdl
        have HOK := Lib.hid hok
        have hsuc : IntKind.i64.wrap ((k : Int) + 1) = ((k + 1 : Nat) : Int) := by simp [IntKind.wrap, IntKind.bits, IntKind.signed]; omega
        have hlen := o.net.ok.len
        have hLl : L.length = M.row.length := pr.length_eq
        have PR := Lib.hid pr
        clear hx hok hia pr
        obtain ⟨N, hN⟩ : ∃ n, n = wr.heap.size := ⟨_, rfl⟩
        have b1 : Below wr.heap.size wr (wr.alloc (.cells x.cells.toArray 41)) := (Below.refl _ wr).alloc (Nat.le_refl _) _
        have o1 := o.low b1
        have q1 := q.low b1
        have g1 := heap_alloc_new wr (.cells x.cells.toArray 41)
        have hrN : N ≠ r := by have := o.lt; omega
        clear b1 o q
        unfold Nt.Ac.cells at g1 o1 q1
        obtain ⟨n, hn⟩ : ∃ n, n = L.length := ⟨_, rfl⟩
        rw [← hn] at o1 q1 ⊢
        have HN := Lib.hid hn
        rw [← hn] at hLl
        have HLL := Lib.hid hLl
        have hn128 : n ≤ 128 := by omega
        clear hn hLl
        go_upto_region 11 with (fail)
        rw [← hN] at g1 ⊢
        clear hN c0 c1 c2 c3 c4 c5
        generalize wr.alloc (.cells #[.int .i64 x.a, .int .i64 x.p.f, .int .i64 x.p.t, .string x.p.d, .int .i64 x.i, .int .u8 x.y.toNat] 41) = w4 at *
        go_wp2_with fail
        refine (ntAll_any o1).mono ?_
        rintro e w5 ⟨va, rfl, pa, k5⟩
        have o5 := o1.low k5
        have q5 := q1.low k5
        have g5 := (k5.block N (Sm.lt_of g1)).trans g1
        obtain ⟨Aa, ca, rfl, -, -⟩ := pa.shape
        clear o1 q1 g1 k5
        generalize w4.heap.size = B1 at *
        have d0 := Sm.cells_of g5 0 _ rfl
        have d1 := Sm.cells_of g5 1 _ rfl
        have d2 := Sm.cells_of g5 2 _ rfl
        have d3 := Sm.cells_of g5 3 _ rfl
        have d4 := Sm.cells_of g5 4 _ rfl
        go_upto_region 12 with (fail)
        go_cut [8] from 30 to 39 (fun s8 wx => s8 = .bool (Nt.there M x.i) ∧ w5 = wx)
        case first =>
          by_cases hi0 : 0 ≤ x.i
          · by_cases hil : x.i < (M.row.length : Int)
            · have HT := Lib.hid (Nt.there_iff.2 ⟨hi0, hil⟩ : Nt.there M x.i = true)
              go_wp2_with fail
              go_meet
              exact ⟨by rw [HT.out], rfl⟩
            · have HT := Lib.hid (Nt.there_not.2 (by omega) : Nt.there M x.i = false)
              go_wp2_with fail
              go_meet
              exact ⟨by rw [HT.out], rfl⟩
          · have HT := Lib.hid (Nt.there_not.2 (by omega) : Nt.there M x.i = false)
            go_wp2_with fail
            go_meet
            exact ⟨by rw [HT.out], rfl⟩
        case rest =>
          obtain ⟨rfl, rfl⟩ := hcut
          by_cases e0 : x.a = 0
          · rw [e0] at d0
            have E0 := Lib.hid e0
            clear e0
            have PO := Lib.hid (ntPost_any o5 x.p HOK.out.f (by omega))
            unfold Nt.Pk.cells at PO
            go_upto_region 16 with (fail)
            go_wp2_with fail
            refine PO.out.mono ?_
            rintro e w6 ⟨rfl, s6⟩
            have pa6 := pa.step o5 s6
            have q6 := q5.step o5 s6
            have g6 := (s6.turned.block N (Sm.lt_of g5) (fun e => hrN (Option.some.inj e))).trans g5
            have o6 := s6.own
            clear pa q5 g5 s6 o5 d0 d1 d2 d3 d4 PO
            rcases Nt.post_cases M x.p with hpc | ⟨er, her, hpc⟩
            · rw [hpc] at o6 ⊢
              have d1 := Sm.cells_of g6 1 _ rfl
              have d2 := Sm.cells_of g6 2 _ rfl
              have d3 := Sm.cells_of g6 3 _ rfl
              have b7 : Below w6.heap.size w6 (w6.alloc (.cells #[.int .i64 x.p.f, .int .i64 x.p.t, .string x.p.d] 25)) := (Below.refl _ w6).alloc (Nat.le_refl _) _
              have g7 := heap_alloc_new w6 (.cells #[.int .i64 x.p.f, .int .i64 x.p.t, .string x.p.d] 25)
              have o7 := o6.low b7
              have q7 := q6.low b7
              have HB7 := Lib.hid o7.size
              have HQ7 := Lib.hid q7
              have HG7 := Lib.hid (Sm.range_row (cs := x.p.cells) g7)
              have HO7 := Lib.hid o7
              clear b7 g7 o7 q7 hpc
              go_wp2_with (at_builtin; refine Nt.wpList_append_pk rfl _ _ rfl (B := W.heap.size) (l := L) rfl HQ7.out HB7.out x.p (N := w6.heap.size) rfl HG7.out (by have := HN.out; omega) ?_
                           intro v8 w8 q8 hd8)
              have o8 := HO7.out.push HQ7.out q8 hd8
              clear hd8 d1 d2 d3
              obtain ⟨A8, c8, hv8⟩ := Sm.own_shape q8
              obtain ⟨n8, hn8⟩ : ∃ n, n = (L ++ [x.p]).length := ⟨_, rfl⟩
              rw [← hn8] at hv8
              subst hv8
              have HN8 := Lib.hid hn8
              clear hn8
              have hfin : (⟨M.row ++ [x.p], M.parted⟩ : Nt.Md).row.length = n8 := (by rw [HN8.out]; simp; have := HN.out; have := HLL.out; omega)
              have hprf := (PR.out.append (List.Perm.refl [x.p]))
              obtain ⟨M9, hM9⟩ : ∃ m : Nt.Md, m = (⟨M.row ++ [x.p], M.parted⟩ : Nt.Md) := ⟨_, rfl⟩
              have hprf : (L ++ [x.p]).Perm M9.row := by rw [hM9]; exact hprf
              rw [← hM9] at o8 hfin
              have PRF := Lib.hid hprf
              clear hM9 hprf
              have HFN := Lib.hid hfin
              clear hfin
              go_wp2_with fail
              refine (ntLen_any o8).mono ?_
              rintro e w90 ⟨rfl, rfl⟩
              rw [HFN.out]
              go_wp2_with fail
              refine (ntAll_any o8).mono ?_
              rintro e w91 ⟨v9, rfl, p9, k9⟩
              have o9 := (o8).low k9
              have q9 := (q8).low k9
              obtain ⟨A9, c9, rfl, -, -⟩ := p9.shape
              have hb9 := k9.size
              clear k9
              go_wp2_with fail
              refine (fits8_any o9.net.ok p9).mono ?_
              rintro e w92 ⟨rfl, k92⟩
              have O92 := Lib.hid (o9.low k92)
              have Q92 := Lib.hid (q9.low k92)
              clear o9 q9 p9 k92 hb9
              go_wp2
              go_roundw
              case rel => exact ⟨k + 1, M9, L ++ [x.p], rfl, hlt, O92.out, Q92.out, PRF.out⟩
              case measure => simp [intOf]; omega
            · rw [hpc] at o6 ⊢
              have hne : (er == 0) = false := beq_eq_false_iff_ne.2 her
              clear hpc g6 pa6
              have hfin : M.row.length = n := HLL.out.symm
              have hprf := PR.out
              obtain ⟨M9, hM9⟩ : ∃ m : Nt.Md, m = M := ⟨_, rfl⟩
              have hprf : (L).Perm M9.row := by rw [hM9]; exact hprf
              rw [← hM9] at o6 hfin
              have PRF := Lib.hid hprf
              clear hM9 hprf
              have HFN := Lib.hid hfin
              clear hfin
              go_wp2_with fail
              refine (ntLen_any o6).mono ?_
              rintro e w90 ⟨rfl, rfl⟩
              rw [HFN.out]
              go_wp2_with fail
              refine (ntAll_any o6).mono ?_
              rintro e w91 ⟨v9, rfl, p9, k9⟩
              have o9 := (o6).low k9
              have q9 := (q6).low k9
              obtain ⟨A9, c9, rfl, -, -⟩ := p9.shape
              have hb9 := k9.size
              clear k9
              go_wp2_with fail
              refine (fits8_any o9.net.ok p9).mono ?_
              rintro e w92 ⟨rfl, k92⟩
              have O92 := Lib.hid (o9.low k92)
              have Q92 := Lib.hid (q9.low k92)
              clear o9 q9 p9 k92 hb9
              go_wp2
              go_roundw
              case rel => exact ⟨k + 1, M9, L, rfl, hlt, O92.out, Q92.out, PRF.out⟩
              case measure => simp [intOf]; omega
          · by_cases e1 : x.a = 1
            · rw [e1] at d0
              have E1 := Lib.hid e1
              clear e0 e1
              go_wp2_with fail
              refine (ntTake_any o5 x.i).mono ?_
              rintro e w6 ⟨rfl, s6⟩
              have pa6 := pa.step o5 s6
              have q6 := q5.step o5 s6
              have g6 := (s6.turned.block N (Sm.lt_of g5) (fun e => hrN (Option.some.inj e))).trans g5
              have o6 := s6.own
              clear pa q5 g5 s6 o5 d0 d1 d2 d3 d4
              by_cases ht : Nt.there M x.i = true
              · obtain ⟨j, hj⟩ : ∃ j : Nat, x.i = (j : Int) := ⟨x.i.toNat, by have := Nt.there_iff.1 ht; omega⟩
                have hjl : j < M.row.length := by have := Nt.there_iff.1 ht; omega
                have ht0 := ht
                rw [ht]
                have HJ := Lib.hid hj
                cases hpar : M.parted with
                | false =>
                  have htk : Nt.take M x.i = (Nt.drop M j, M.row[j], 0) := by rw [hj]; exact Nt.take_at hjl hpar
                  rw [htk] at o6 ⊢
                  obtain ⟨pk, hpk⟩ : ∃ p, p = M.row[j] := ⟨_, rfl⟩
                  rw [← hpk]
                  have HPK := Lib.hid hpk
                  have HPAR := Lib.hid hpar
                  clear htk hj ht ht0 hpk hpar
                  obtain ⟨pf, pt, pd⟩ := pk
                  unfold Nt.Pk.cells
                  simp only
                  go_upto_region 20 with (fail)
                  have b7 : Below w6.heap.size w6 (w6.alloc (.cells #[.int .i64 pf, .int .i64 pt, .string pd] 25)) := (Below.refl _ w6).alloc (Nat.le_refl _) _
                  have h7 := heap_alloc_new w6 (.cells #[.int .i64 pf, .int .i64 pt, .string pd] 25)
                  have o7 := o6.low b7
                  have q7 := q6.low b7
                  have pa7 := pa6.low b7
                  have g7 := (b7.block N (Sm.lt_of g6)).trans g6
                  obtain ⟨N7, hN7⟩ : ∃ n, n = w6.heap.size := ⟨_, rfl⟩
                  rw [← hN7] at h7 ⊢
                  clear b7 hN7 o6 q6 pa6 g6
                  generalize w6.alloc (.cells #[.int .i64 pf, .int .i64 pt, .string pd] 25) = w7 at *
                  go_wp2_with fail
                  refine (ntParted_any o7).mono ?_
                  rintro e w8 ⟨rfl, rfl⟩
                  rw [show (Nt.drop M j).parted = false from HPAR.out]
                  go_upto_region 21 with (fail)
                  have y0 := Sm.cells_of h7 0 _ rfl
                  have y1 := Sm.cells_of h7 1 _ rfl
                  have y2 := Sm.cells_of h7 2 _ rfl
                  have d4 := Sm.cells_of g7 4 _ rfl
                  rw [HJ.out] at d4
                  have hji : (j : Int) < (M.row.length : Int) := by omega
                  obtain ⟨ga, hga, -, x0, x1, x2⟩ := pa7.get hjl
                  subst hga
                  rw [← HPK.out] at x0 x1 x2
                  simp only at x0 x1 x2
                  have O7 := Lib.hid o7
                  have Q7 := Lib.hid q7
                  have P7 := Lib.hid pa7
                  have G7 := Lib.hid g7
                  clear o7 q7 pa7 g7 h7
                  go_quiet (fail)
                  clear x0 x1 x2 y0 y1 y2 d4
                  have o8 := O7.out.low (Sm.below_drewN (Below.refl _ w7) nq)
                  have q8 := Q7.out.low (Sm.below_drewN (Below.refl _ w7) nq)
                  have pa8 := P7.out.low (Sm.below_drewN (Below.refl _ w7) nq)
                  have g8 : (w7.drewN nq).heap[N]? = some (.cells #[.int .i64 x.a, .int .i64 x.p.f, .int .i64 x.p.t, .string x.p.d, .int .i64 x.i, .int .u8 x.y.toNat] 41 (0, 0)) := G7.out
                  clear O7 Q7 P7 G7
                  generalize w7.drewN nq = w8 at *
                  have FI : Hid (∀ wx : World, Nt.PksAt wx W.heap.size (.slice Av n cv) L → Calls Try.prog 22 #[.slice Av n cv, .agg #[.int .i64 pf, .int .i64 pt, .string pd]] wx fun e w' => ∃ (k' : Nat) (hk' : k' < L.length), L[k'] = M.row[j] ∧ e = .returned (.int .i64 (k' : Int)) ∧ Below wx.heap.size wx w') := fun wx h => by
                    have hm : M.row[j] ∈ L := PR.out.mem_iff.2 (List.getElem_mem hjl)
                    rw [HN.out] at h ⊢
                    have := find8_any h M.row[j] hm (by have := HN.out; omega)
                    rw [← HPK.out] at this
                    rw [← HPK.out]
                    exact this
                  obtain ⟨gb, hgb, -, x0, x1, x2⟩ := (pa8).get hjl
                  first
                    | subst hgb
                    | (simp only [Option.some.injEq, Addr.mk.injEq] at hgb; obtain ⟨hgb, -⟩ := hgb; subst hgb)
                  rw [← HPK.out] at x0 x1 x2
                  simp only at x0 x1 x2
                  have d4 := Sm.cells_of g8 4 _ rfl
                  rw [HJ.out] at d4
                  have hji : (j : Int) < (M.row.length : Int) := by omega
                  have O := Lib.hid (o8)
                  have Q := Lib.hid (q8)
                  clear o8 q8 pa8 g8
                  go_wp2_with fail
                  refine (FI.out _ Q.out).mono ?_
                  rintro e w9 ⟨k', hk', hLk, rfl, k9⟩
                  have o9 := O.out.low k9
                  have q9 := Q.out.low k9
                  clear x0 x1 x2 d4 O Q FI k9
                  have HPE := Lib.hid (Nt.perm_erase PR.out hk' hjl hLk)
                  clear hLk
                  obtain ⟨gl, hgl, -, -, -, -⟩ := q9.get hk'
                  subst hgl
                  have hcv : n ≤ cv := by
                    have h1 := q9.block.1
                    have := HN.out
                    omega
                  have hkn : k' < n := by have := HN.out; omega
                  have hk0 : ¬ (k' : Int) < 0 := by omega
                  go_upto_region 38 with (fail)
                  have hkc : (k' : Int) ≤ (cv : Int) := by omega
                  have hkb : (0 : Int) ≤ (k' : Int) + 1 := by omega
                  have hkd : (k' : Int) + 1 ≤ (n : Int) := by omega
                  have hk1 : IntKind.i64.wrap ((k' : Int) + 1) = ((k' + 1 : Nat) : Int) := by simp [IntKind.wrap, IntKind.bits, IntKind.signed]; omega
                  obtain ⟨a2, ha2⟩ : ∃ a : Addr, a = if cv = k' + 1 then ⟨gl, 0, none⟩ else ⟨gl, (k' + 1) * 3, none⟩ := ⟨_, rfl⟩
                  have hab : (if cv = k' + 1 then some (⟨gl, 0, none⟩ : Addr) else some ⟨gl, (k' + 1) * 3, none⟩) = some a2 := by rw [ha2]; split <;> rfl
                  have HA2 := Lib.hid ha2
                  have HAB := Lib.hid hab
                  clear ha2 hab
                  refine wp_region_held_drew (S := (fun _ => True)) (by kernel_rfl) trivial (fun hHeld => ?_)
                  refine wpAnyH_take (i := 1) (oi := ⟨some 131, _, _, _, _, _⟩) (v := .slice (some ⟨gl, 0, none⟩) n cv) rfl (by kernel_rfl) (by kernel_rfl) (by kernel_rfl) (fun _ _ _ h => h) (Or.inl ⟨by rfl, ?_⟩) (by assumption) ?_
                  · intro w hSw; (try dsimp only at hSw); go_simp
                  simp only [Act.put, List.setIfInBounds_toArray, List.set_cons_zero, List.set_cons_succ]
                  refine wpAnyH_take (i := 2) (oi := ⟨some 132, _, _, _, _, _⟩) (v := .int .i64 (k' : Int)) rfl (by kernel_rfl) (by kernel_rfl) (by kernel_rfl) (fun _ _ _ h => h) (Or.inl ⟨by rfl, ?_⟩) (by assumption) ?_
                  · intro w hSw; (try dsimp only at hSw); go_simp
                  simp only [Act.put, List.setIfInBounds_toArray, List.set_cons_zero, List.set_cons_succ]
                  refine wpAnyH_take (i := 3) (oi := ⟨some 133, _, _, _, _, _⟩) (v := .slice (some ⟨gl, 0, none⟩) k' cv) rfl (by kernel_rfl) (by kernel_rfl) (by kernel_rfl) (fun _ _ _ h => h) (Or.inl ⟨by rfl, ?_⟩) (by assumption) ?_
                  · intro w hSw; (try dsimp only at hSw); go_simp
                  simp only [Act.put, List.setIfInBounds_toArray, List.set_cons_zero, List.set_cons_succ]
                  refine wpAnyH_take (i := 5) (oi := ⟨some 135, _, _, _, _, _⟩) (v := .slice (some ⟨gl, 0, none⟩) n cv) rfl (by kernel_rfl) (by kernel_rfl) (by kernel_rfl) (fun _ _ _ h => h) (Or.inl ⟨by rfl, ?_⟩) (by assumption) ?_
                  · intro w hSw; (try dsimp only at hSw); go_simp
                  simp only [Act.put, List.setIfInBounds_toArray, List.set_cons_zero, List.set_cons_succ]
                  refine wpAnyH_take (i := 6) (oi := ⟨some 136, _, _, _, _, _⟩) (v := .int .i64 (k' : Int)) rfl (by kernel_rfl) (by kernel_rfl) (by kernel_rfl) (fun _ _ _ h => h) (Or.inl ⟨by rfl, ?_⟩) (by assumption) ?_
                  · intro w hSw; (try dsimp only at hSw); go_simp
                  simp only [Act.put, List.setIfInBounds_toArray, List.set_cons_zero, List.set_cons_succ]
                  refine wpAnyH_take (i := 7) (oi := ⟨some 137, _, _, _, _, _⟩) (v := .int .i64 ((k' + 1 : Nat) : Int)) rfl (by kernel_rfl) (by kernel_rfl) (by kernel_rfl) (fun _ _ _ h => h) (Or.inl ⟨by rfl, ?_⟩) (by assumption) ?_
                  · intro w hSw; (try dsimp only at hSw); go_simp
                  simp only [Act.put, List.setIfInBounds_toArray, List.set_cons_zero, List.set_cons_succ]
                  refine wpAnyH_take (i := 8) (oi := ⟨some 138, _, _, _, _, _⟩) (v := .slice (some a2) (n - (k' + 1)) (cv - (k' + 1))) rfl (by kernel_rfl) (by kernel_rfl) (by kernel_rfl) (fun _ _ _ h => h) (Or.inl ⟨by rfl, ?_⟩) (by assumption) ?_
                  · intro w hSw; (try dsimp only at hSw); have hab := HAB.out; go_simp
                  simp only [Act.put, List.setIfInBounds_toArray, List.set_cons_zero, List.set_cons_succ]
                  refine wpAnyH_ready (rs := [0]) (by kernel_rfl) (by simp) ?_
                  refine (AllReadyH.cons (o := ⟨some 130, _, _, _, _, _⟩) rfl (fun K hK => ?_) AllReadyH.nil)
                  go_simp
                  have k10 : Below w9.heap.size w9 (w9.alloc (.cells #[] 25)).drew := ((Below.refl _ w9).alloc (Nat.le_refl _) _).drew
                  have gA : (w9.alloc (.cells #[] 25)).drew.heap[w9.heap.size]? = some (.cells #[] 25 (0, 0)) := heap_alloc_new w9 _
                  have HS9 := Lib.hid (show W.heap.size ≤ w9.heap.size from o9.size)
                  have O9 := Lib.hid o9
                  have Q9 := Lib.hid q9
                  clear o9 q9
                  obtain ⟨NB, hNB⟩ : ∃ n, n = w9.heap.size := ⟨_, rfl⟩
                  rw [← hNB] at gA k10 ⊢
                  have HNB := Lib.hid hNB
                  generalize (w9.alloc (.cells #[] 25)).drew = wA at *
                  have hsA : NB ≤ wA.heap.size := by have := Sm.lt_of gA; omega
                  have ownA : wA.ownsRow NB 25 3 (.slice (some ⟨NB, 0, none⟩) 0 0) 0 [] := ⟨rfl, .inr ⟨NB, 0, #[], rfl, Nat.le_refl _, gA, Nat.le_refl _, Nat.zero_le _, rfl, rfl⟩⟩
                  clear hNB gA
                  obtain ⟨i0, hi, hz0, hz1, hz2⟩ := info_parts Nt.info3_packet
                  refine hK.out _ _ trivial (fun hHeld => ?_)
                  clear hK K
                  refine wpAnyH_ready (rs := [4]) (by kernel_rfl) (by simp) ?_
                  refine (AllReadyH.cons (o := ⟨some 134, _, _, _, _, _⟩) rfl (fun K hK => ?_) AllReadyH.nil)
                  have qA := Q9.out.low (by rw [← HNB.out]; exact k10)
                  rw [if_pos (by simp [Region.wanted])]
                  refine wp_append_own _ (.tmp 130) (.tmp 133) 37 rfl NB 25 i0 _ 3 32 Try.underlying37 hi hz0 hz1 hz2 rfl (by decide) _ 0 [] rfl ownA ⟨gl, 0, none⟩ k' cv (Nt.flat (L.take k')) rfl (by rw [Nt.flat_length, List.length_take]; have := HN.out; omega) (qA.front k') (Nt.flat_single _) (by unfold maxLen; omega) (by omega) hsA ?_
                  intro v11 w11 own11 gr11 _
                  have k11 := k10.grown gr11 hsA (fun q hq => (Nt.own_blk ownA hq).1)
                  simp only [Nat.zero_add, List.nil_append] at own11
                  obtain ⟨A11, c11, hv11⟩ := Sm.own_shape own11
                  subst hv11
                  clear gr11 ownA qA k10 hsA
                  refine hK.out _ _ trivial (fun hHeld => ?_)
                  clear hK K
                  refine wpAnyH_ready (rs := [9]) (by kernel_rfl) (by simp) ?_
                  refine (AllReadyH.cons (o := ⟨some 139, _, _, _, _, _⟩) rfl (fun K hK => ?_) AllReadyH.nil)
                  have qB := Q9.out.low (by rw [← HNB.out]; exact k11)
                  have hsB : NB ≤ w11.heap.size := by have := k11.size; have := HNB.out; omega
                  rw [if_pos (by simp [Region.wanted])]
                  refine wp_append_own _ (.tmp 134) (.tmp 138) 37 rfl NB 25 i0 _ 3 32 Try.underlying37 hi hz0 hz1 hz2 rfl (by decide) _ k' (Nt.flat (L.take k')) rfl own11 a2 (n - (k' + 1)) (cv - (k' + 1)) (Nt.flat (L.drop (k' + 1))) rfl (by rw [Nt.flat_length, List.length_drop, HN.out]) (qB.back2 k' HA2.out) (Nt.flat_single _) (by unfold maxLen; omega) (by omega) hsB ?_
                  intro v12 w12 own12 gr12 _
                  have k12 := k11.grown gr12 hsB (fun q hq => (Nt.own_blk own11 hq).1)
                  have q12 : Nt.PksAt w12 NB v12 (L.take k' ++ L.drop (k' + 1)) := by
                    unfold Nt.PksAt
                    rw [Nt.flat_append, List.length_append, List.length_take, List.length_drop, show min k' L.length = k' by omega, ← HN.out]
                    exact own12
                  have o12 : Nt.Own W.heap.size W w12 r (fun q => v12.ownBlock = some q) (Nt.drop M j) := O9.out.label (by rw [← HNB.out]; exact k12) (fun q hq => ⟨by obtain ⟨_, cs, hbk⟩ := Nt.own_blk q12 hq; exact Sm.lt_of hbk, .inr (by rw [← HNB.out]; exact (Nt.own_blk q12 hq).1)⟩)
                  replace q12 : Nt.PksAt w12 W.heap.size v12 (L.take k' ++ L.drop (k' + 1)) := Nt.own_more q12 (by have := HS9.out; have := HNB.out; omega)
                  obtain ⟨A12, c12, hv12⟩ := Sm.own_shape q12
                  obtain ⟨n12, hn12⟩ : ∃ m, m = (L.take k' ++ L.drop (k' + 1)).length := ⟨_, rfl⟩
                  rw [← hn12] at hv12
                  subst hv12
                  have HN12 := Lib.hid hn12
                  clear hn12 own11 own12 gr12 k11 k12 qB hsB
                  refine hK.out _ _ trivial (fun hHeld => ?_)
                  clear hK K
                  refine wpAnyH_take (i := 10) (oi := ⟨some 4, _, _, _, _, _⟩) (v := .slice A12 n12 c12) rfl (by kernel_rfl) (by kernel_rfl) (by kernel_rfl) (fun _ _ _ h => h) (Or.inl ⟨by rfl, ?_⟩) (by assumption) ?_
                  · intro w hSw; (try dsimp only at hSw); go_simp
                  simp only [Act.put, List.setIfInBounds_toArray, List.set_cons_zero, List.set_cons_succ]
                  refine wpAnyH_done (by kernel_rfl) ?_ _
                  have hfin : (Nt.drop M j).row.length = n12 := (by have h1 := HPE.out.length_eq; have h2 := HN12.out; exact h1.symm.trans h2.symm)
                  have hprf := HPE.out
                  obtain ⟨M9, hM9⟩ : ∃ m : Nt.Md, m = (Nt.drop M j) := ⟨_, rfl⟩
                  have hprf : (L.take k' ++ L.drop (k' + 1)).Perm M9.row := by rw [hM9]; exact hprf
                  rw [← hM9] at o12 hfin
                  have PRF := Lib.hid hprf
                  clear hM9 hprf
                  have HFN := Lib.hid hfin
                  clear hfin
                  go_wp2_with fail
                  refine (ntLen_any o12).mono ?_
                  rintro e w90 ⟨rfl, rfl⟩
                  rw [HFN.out]
                  go_wp2_with fail
                  refine (ntAll_any o12).mono ?_
                  rintro e w91 ⟨v9, rfl, p9, k9⟩
                  have o9 := (o12).low k9
                  have q9 := (q12).low k9
                  obtain ⟨A9, c9, rfl, -, -⟩ := p9.shape
                  have hb9 := k9.size
                  clear k9
                  go_wp2_with fail
                  refine (fits8_any o9.net.ok p9).mono ?_
                  rintro e w92 ⟨rfl, k92⟩
                  have O92 := Lib.hid (o9.low k92)
                  have Q92 := Lib.hid (q9.low k92)
                  clear o9 q9 p9 k92 hb9
                  go_wp2
                  go_roundw
                  case rel => exact ⟨k + 1, M9, L.take k' ++ L.drop (k' + 1), rfl, hlt, O92.out, Q92.out, PRF.out⟩
                  case measure => simp [intOf]; omega
                | true =>
                  have htk : Nt.take M x.i = (M, Nt.zero, 14) := by simp [Nt.take, ht0, hpar]
                  rw [htk] at o6 ⊢
                  have HPAR := Lib.hid hpar
                  clear htk hj ht0 hpar
                  have hz : Nt.zero.cells.toArray = #[.int .i64 0, .int .i64 0, .string ⟨#[]⟩] := rfl
                  rw [hz]
                  clear hz
                  go_upto_region 20 with (fail)
                  have b7 : Below w6.heap.size w6 (w6.alloc (.cells #[.int .i64 0, .int .i64 0, .string ⟨#[]⟩] 25)) := (Below.refl _ w6).alloc (Nat.le_refl _) _
                  have o7 := o6.low b7
                  have q7 := q6.low b7
                  clear b7 o6 q6 pa6 g6
                  generalize w6.alloc (.cells #[.int .i64 0, .int .i64 0, .string ⟨#[]⟩] 25) = w7 at *
                  go_wp2_with fail
                  refine (ntParted_any o7).mono ?_
                  rintro e w8 ⟨rfl, rfl⟩
                  rw [HPAR.out]
                  go_upto_region 21 with (fail)
                  have O7 := Lib.hid o7
                  have Q7 := Lib.hid q7
                  clear o7 q7
                  go_quiet (fail)
                  have o8 := O7.out.low (Sm.below_drewN (Below.refl _ w7) nq)
                  have q8 := Q7.out.low (Sm.below_drewN (Below.refl _ w7) nq)
                  clear O7 Q7
                  generalize w7.drewN nq = w8 at *
                  have hfin : M.row.length = n := HLL.out.symm
                  have hprf := PR.out
                  obtain ⟨M9, hM9⟩ : ∃ m : Nt.Md, m = M := ⟨_, rfl⟩
                  have hprf : (L).Perm M9.row := by rw [hM9]; exact hprf
                  rw [← hM9] at o8 hfin
                  have PRF := Lib.hid hprf
                  clear hM9 hprf
                  have HFN := Lib.hid hfin
                  clear hfin
                  go_wp2_with fail
                  refine (ntLen_any o8).mono ?_
                  rintro e w90 ⟨rfl, rfl⟩
                  rw [HFN.out]
                  go_wp2_with fail
                  refine (ntAll_any o8).mono ?_
                  rintro e w91 ⟨v9, rfl, p9, k9⟩
                  have o9 := (o8).low k9
                  have q9 := (q8).low k9
                  obtain ⟨A9, c9, rfl, -, -⟩ := p9.shape
                  have hb9 := k9.size
                  clear k9
                  go_wp2_with fail
                  refine (fits8_any o9.net.ok p9).mono ?_
                  rintro e w92 ⟨rfl, k92⟩
                  have O92 := Lib.hid (o9.low k92)
                  have Q92 := Lib.hid (q9.low k92)
                  clear o9 q9 p9 k92 hb9
                  go_wp2
                  go_roundw
                  case rel => exact ⟨k + 1, M9, L, rfl, hlt, O92.out, Q92.out, PRF.out⟩
                  case measure => simp [intOf]; omega
              · have htf : Nt.there M x.i = false := by cases h : Nt.there M x.i; rfl; exact absurd h ht
                have htk : Nt.take M x.i = (M, Nt.zero, 4) := by simp [Nt.take, htf]
                rw [htk] at o6 ⊢
                rw [htf]
                clear htk ht htf
                have hz : Nt.zero.cells.toArray = #[.int .i64 0, .int .i64 0, .string ⟨#[]⟩] := rfl
                rw [hz]
                clear hz
                go_upto_region 20 with (fail)
                have b7 : Below w6.heap.size w6 (w6.alloc (.cells #[.int .i64 0, .int .i64 0, .string ⟨#[]⟩] 25)) := (Below.refl _ w6).alloc (Nat.le_refl _) _
                have o7 := o6.low b7
                have q7 := q6.low b7
                clear b7 o6 q6 pa6 g6
                generalize w6.alloc (.cells #[.int .i64 0, .int .i64 0, .string ⟨#[]⟩] 25) = w7 at *
                go_upto_region 21 with (fail)
                have O7 := Lib.hid o7
                have Q7 := Lib.hid q7
                clear o7 q7
                go_quiet (fail)
                have o8 := O7.out.low (Sm.below_drewN (Below.refl _ w7) nq)
                have q8 := Q7.out.low (Sm.below_drewN (Below.refl _ w7) nq)
                clear O7 Q7
                generalize w7.drewN nq = w8 at *
                have hfin : M.row.length = n := HLL.out.symm
                have hprf := PR.out
                obtain ⟨M9, hM9⟩ : ∃ m : Nt.Md, m = M := ⟨_, rfl⟩
                have hprf : (L).Perm M9.row := by rw [hM9]; exact hprf
                rw [← hM9] at o8 hfin
                have PRF := Lib.hid hprf
                clear hM9 hprf
                have HFN := Lib.hid hfin
                clear hfin
                go_wp2_with fail
                refine (ntLen_any o8).mono ?_
                rintro e w90 ⟨rfl, rfl⟩
                rw [HFN.out]
                go_wp2_with fail
                refine (ntAll_any o8).mono ?_
                rintro e w91 ⟨v9, rfl, p9, k9⟩
                have o9 := (o8).low k9
                have q9 := (q8).low k9
                obtain ⟨A9, c9, rfl, -, -⟩ := p9.shape
                have hb9 := k9.size
                clear k9
                go_wp2_with fail
                refine (fits8_any o9.net.ok p9).mono ?_
                rintro e w92 ⟨rfl, k92⟩
                have O92 := Lib.hid (o9.low k92)
                have Q92 := Lib.hid (q9.low k92)
                clear o9 q9 p9 k92 hb9
                go_wp2
                go_roundw
                case rel => exact ⟨k + 1, M9, L, rfl, hlt, O92.out, Q92.out, PRF.out⟩
                case measure => simp [intOf]; omega
            · by_cases e2 : x.a = 2
              · rw [e2] at d0
                have E2 := Lib.hid e2
                clear e0 e1 e2
                go_wp2_with fail
                refine (ntLose_any o5 x.i).mono ?_
                rintro e w6 ⟨rfl, s6⟩
                have pa6 := pa.step o5 s6
                have q6 := q5.step o5 s6
                have g6 := (s6.turned.block N (Sm.lt_of g5) (fun e => hrN (Option.some.inj e))).trans g5
                have o6 := s6.own
                clear pa q5 g5 s6 o5 d0 d1 d2 d3 d4
                by_cases ht : Nt.there M x.i = true
                · obtain ⟨j, hj⟩ : ∃ j : Nat, x.i = (j : Int) := ⟨x.i.toNat, by have := Nt.there_iff.1 ht; omega⟩
                  have hjl : j < M.row.length := by have := Nt.there_iff.1 ht; omega
                  have htk : Nt.lose M x.i = (Nt.drop M j, 0) := by unfold Nt.lose; rw [if_pos ht, hj]; rfl
                  rw [htk] at o6 ⊢
                  rw [ht]
                  have HJ := Lib.hid hj
                  obtain ⟨pk, hpk⟩ : ∃ p, p = M.row[j] := ⟨_, rfl⟩
                  have HPK := Lib.hid hpk
                  clear htk hj ht hpk
                  obtain ⟨pf, pt, pd⟩ := pk
                  have FI : Hid (∀ wx : World, Nt.PksAt wx W.heap.size (.slice Av n cv) L → Calls Try.prog 22 #[.slice Av n cv, .agg #[.int .i64 pf, .int .i64 pt, .string pd]] wx fun e w' => ∃ (k' : Nat) (hk' : k' < L.length), L[k'] = M.row[j] ∧ e = .returned (.int .i64 (k' : Int)) ∧ Below wx.heap.size wx w') := fun wx h => by
                    have hm : M.row[j] ∈ L := PR.out.mem_iff.2 (List.getElem_mem hjl)
                    rw [HN.out] at h ⊢
                    have := find8_any h M.row[j] hm (by have := HN.out; omega)
                    rw [← HPK.out] at this
                    rw [← HPK.out]
                    exact this
                  obtain ⟨gb, hgb, -, x0, x1, x2⟩ := (pa6).get hjl
                  first
                    | subst hgb
                    | (simp only [Option.some.injEq, Addr.mk.injEq] at hgb; obtain ⟨hgb, -⟩ := hgb; subst hgb)
                  rw [← HPK.out] at x0 x1 x2
                  simp only at x0 x1 x2
                  have d4 := Sm.cells_of g6 4 _ rfl
                  rw [HJ.out] at d4
                  have hji : (j : Int) < (M.row.length : Int) := by omega
                  have O := Lib.hid (o6)
                  have Q := Lib.hid (q6)
                  clear o6 q6 pa6 g6
                  go_wp2_with fail
                  refine (FI.out _ Q.out).mono ?_
                  rintro e w9 ⟨k', hk', hLk, rfl, k9⟩
                  have o9 := O.out.low k9
                  have q9 := Q.out.low k9
                  clear x0 x1 x2 d4 O Q FI k9
                  have HPE := Lib.hid (Nt.perm_erase PR.out hk' hjl hLk)
                  clear hLk
                  obtain ⟨gl, hgl, -, -, -, -⟩ := q9.get hk'
                  subst hgl
                  have hcv : n ≤ cv := by
                    have h1 := q9.block.1
                    have := HN.out
                    omega
                  have hkn : k' < n := by have := HN.out; omega
                  have hk0 : ¬ (k' : Int) < 0 := by omega
                  go_upto_region 38 with (fail)
                  have hkc : (k' : Int) ≤ (cv : Int) := by omega
                  have hkb : (0 : Int) ≤ (k' : Int) + 1 := by omega
                  have hkd : (k' : Int) + 1 ≤ (n : Int) := by omega
                  have hk1 : IntKind.i64.wrap ((k' : Int) + 1) = ((k' + 1 : Nat) : Int) := by simp [IntKind.wrap, IntKind.bits, IntKind.signed]; omega
                  obtain ⟨a2, ha2⟩ : ∃ a : Addr, a = if cv = k' + 1 then ⟨gl, 0, none⟩ else ⟨gl, (k' + 1) * 3, none⟩ := ⟨_, rfl⟩
                  have hab : (if cv = k' + 1 then some (⟨gl, 0, none⟩ : Addr) else some ⟨gl, (k' + 1) * 3, none⟩) = some a2 := by rw [ha2]; split <;> rfl
                  have HA2 := Lib.hid ha2
                  have HAB := Lib.hid hab
                  clear ha2 hab
                  refine wp_region_held_drew (S := (fun _ => True)) (by kernel_rfl) trivial (fun hHeld => ?_)
                  refine wpAnyH_take (i := 1) (oi := ⟨some 131, _, _, _, _, _⟩) (v := .slice (some ⟨gl, 0, none⟩) n cv) rfl (by kernel_rfl) (by kernel_rfl) (by kernel_rfl) (fun _ _ _ h => h) (Or.inl ⟨by rfl, ?_⟩) (by assumption) ?_
                  · intro w hSw; (try dsimp only at hSw); go_simp
                  simp only [Act.put, List.setIfInBounds_toArray, List.set_cons_zero, List.set_cons_succ]
                  refine wpAnyH_take (i := 2) (oi := ⟨some 132, _, _, _, _, _⟩) (v := .int .i64 (k' : Int)) rfl (by kernel_rfl) (by kernel_rfl) (by kernel_rfl) (fun _ _ _ h => h) (Or.inl ⟨by rfl, ?_⟩) (by assumption) ?_
                  · intro w hSw; (try dsimp only at hSw); go_simp
                  simp only [Act.put, List.setIfInBounds_toArray, List.set_cons_zero, List.set_cons_succ]
                  refine wpAnyH_take (i := 3) (oi := ⟨some 133, _, _, _, _, _⟩) (v := .slice (some ⟨gl, 0, none⟩) k' cv) rfl (by kernel_rfl) (by kernel_rfl) (by kernel_rfl) (fun _ _ _ h => h) (Or.inl ⟨by rfl, ?_⟩) (by assumption) ?_
                  · intro w hSw; (try dsimp only at hSw); go_simp
                  simp only [Act.put, List.setIfInBounds_toArray, List.set_cons_zero, List.set_cons_succ]
                  refine wpAnyH_take (i := 5) (oi := ⟨some 135, _, _, _, _, _⟩) (v := .slice (some ⟨gl, 0, none⟩) n cv) rfl (by kernel_rfl) (by kernel_rfl) (by kernel_rfl) (fun _ _ _ h => h) (Or.inl ⟨by rfl, ?_⟩) (by assumption) ?_
                  · intro w hSw; (try dsimp only at hSw); go_simp
                  simp only [Act.put, List.setIfInBounds_toArray, List.set_cons_zero, List.set_cons_succ]
                  refine wpAnyH_take (i := 6) (oi := ⟨some 136, _, _, _, _, _⟩) (v := .int .i64 (k' : Int)) rfl (by kernel_rfl) (by kernel_rfl) (by kernel_rfl) (fun _ _ _ h => h) (Or.inl ⟨by rfl, ?_⟩) (by assumption) ?_
                  · intro w hSw; (try dsimp only at hSw); go_simp
                  simp only [Act.put, List.setIfInBounds_toArray, List.set_cons_zero, List.set_cons_succ]
                  refine wpAnyH_take (i := 7) (oi := ⟨some 137, _, _, _, _, _⟩) (v := .int .i64 ((k' + 1 : Nat) : Int)) rfl (by kernel_rfl) (by kernel_rfl) (by kernel_rfl) (fun _ _ _ h => h) (Or.inl ⟨by rfl, ?_⟩) (by assumption) ?_
                  · intro w hSw; (try dsimp only at hSw); go_simp
                  simp only [Act.put, List.setIfInBounds_toArray, List.set_cons_zero, List.set_cons_succ]
                  refine wpAnyH_take (i := 8) (oi := ⟨some 138, _, _, _, _, _⟩) (v := .slice (some a2) (n - (k' + 1)) (cv - (k' + 1))) rfl (by kernel_rfl) (by kernel_rfl) (by kernel_rfl) (fun _ _ _ h => h) (Or.inl ⟨by rfl, ?_⟩) (by assumption) ?_
                  · intro w hSw; (try dsimp only at hSw); have hab := HAB.out; go_simp
                  simp only [Act.put, List.setIfInBounds_toArray, List.set_cons_zero, List.set_cons_succ]
                  refine wpAnyH_ready (rs := [0]) (by kernel_rfl) (by simp) ?_
                  refine (AllReadyH.cons (o := ⟨some 130, _, _, _, _, _⟩) rfl (fun K hK => ?_) AllReadyH.nil)
                  go_simp
                  have k10 : Below w9.heap.size w9 (w9.alloc (.cells #[] 25)).drew := ((Below.refl _ w9).alloc (Nat.le_refl _) _).drew
                  have gA : (w9.alloc (.cells #[] 25)).drew.heap[w9.heap.size]? = some (.cells #[] 25 (0, 0)) := heap_alloc_new w9 _
                  have HS9 := Lib.hid (show W.heap.size ≤ w9.heap.size from o9.size)
                  have O9 := Lib.hid o9
                  have Q9 := Lib.hid q9
                  clear o9 q9
                  obtain ⟨NB, hNB⟩ : ∃ n, n = w9.heap.size := ⟨_, rfl⟩
                  rw [← hNB] at gA k10 ⊢
                  have HNB := Lib.hid hNB
                  generalize (w9.alloc (.cells #[] 25)).drew = wA at *
                  have hsA : NB ≤ wA.heap.size := by have := Sm.lt_of gA; omega
                  have ownA : wA.ownsRow NB 25 3 (.slice (some ⟨NB, 0, none⟩) 0 0) 0 [] := ⟨rfl, .inr ⟨NB, 0, #[], rfl, Nat.le_refl _, gA, Nat.le_refl _, Nat.zero_le _, rfl, rfl⟩⟩
                  clear hNB gA
                  obtain ⟨i0, hi, hz0, hz1, hz2⟩ := info_parts Nt.info3_packet
                  refine hK.out _ _ trivial (fun hHeld => ?_)
                  clear hK K
                  refine wpAnyH_ready (rs := [4]) (by kernel_rfl) (by simp) ?_
                  refine (AllReadyH.cons (o := ⟨some 134, _, _, _, _, _⟩) rfl (fun K hK => ?_) AllReadyH.nil)
                  have qA := Q9.out.low (by rw [← HNB.out]; exact k10)
                  rw [if_pos (by simp [Region.wanted])]
                  refine wp_append_own _ (.tmp 130) (.tmp 133) 37 rfl NB 25 i0 _ 3 32 Try.underlying37 hi hz0 hz1 hz2 rfl (by decide) _ 0 [] rfl ownA ⟨gl, 0, none⟩ k' cv (Nt.flat (L.take k')) rfl (by rw [Nt.flat_length, List.length_take]; have := HN.out; omega) (qA.front k') (Nt.flat_single _) (by unfold maxLen; omega) (by omega) hsA ?_
                  intro v11 w11 own11 gr11 _
                  have k11 := k10.grown gr11 hsA (fun q hq => (Nt.own_blk ownA hq).1)
                  simp only [Nat.zero_add, List.nil_append] at own11
                  obtain ⟨A11, c11, hv11⟩ := Sm.own_shape own11
                  subst hv11
                  clear gr11 ownA qA k10 hsA
                  refine hK.out _ _ trivial (fun hHeld => ?_)
                  clear hK K
                  refine wpAnyH_ready (rs := [9]) (by kernel_rfl) (by simp) ?_
                  refine (AllReadyH.cons (o := ⟨some 139, _, _, _, _, _⟩) rfl (fun K hK => ?_) AllReadyH.nil)
                  have qB := Q9.out.low (by rw [← HNB.out]; exact k11)
                  have hsB : NB ≤ w11.heap.size := by have := k11.size; have := HNB.out; omega
                  rw [if_pos (by simp [Region.wanted])]
                  refine wp_append_own _ (.tmp 134) (.tmp 138) 37 rfl NB 25 i0 _ 3 32 Try.underlying37 hi hz0 hz1 hz2 rfl (by decide) _ k' (Nt.flat (L.take k')) rfl own11 a2 (n - (k' + 1)) (cv - (k' + 1)) (Nt.flat (L.drop (k' + 1))) rfl (by rw [Nt.flat_length, List.length_drop, HN.out]) (qB.back2 k' HA2.out) (Nt.flat_single _) (by unfold maxLen; omega) (by omega) hsB ?_
                  intro v12 w12 own12 gr12 _
                  have k12 := k11.grown gr12 hsB (fun q hq => (Nt.own_blk own11 hq).1)
                  have q12 : Nt.PksAt w12 NB v12 (L.take k' ++ L.drop (k' + 1)) := by
                    unfold Nt.PksAt
                    rw [Nt.flat_append, List.length_append, List.length_take, List.length_drop, show min k' L.length = k' by omega, ← HN.out]
                    exact own12
                  have o12 : Nt.Own W.heap.size W w12 r (fun q => v12.ownBlock = some q) (Nt.drop M j) := O9.out.label (by rw [← HNB.out]; exact k12) (fun q hq => ⟨by obtain ⟨_, cs, hbk⟩ := Nt.own_blk q12 hq; exact Sm.lt_of hbk, .inr (by rw [← HNB.out]; exact (Nt.own_blk q12 hq).1)⟩)
                  replace q12 : Nt.PksAt w12 W.heap.size v12 (L.take k' ++ L.drop (k' + 1)) := Nt.own_more q12 (by have := HS9.out; have := HNB.out; omega)
                  obtain ⟨A12, c12, hv12⟩ := Sm.own_shape q12
                  obtain ⟨n12, hn12⟩ : ∃ m, m = (L.take k' ++ L.drop (k' + 1)).length := ⟨_, rfl⟩
                  rw [← hn12] at hv12
                  subst hv12
                  have HN12 := Lib.hid hn12
                  clear hn12 own11 own12 gr12 k11 k12 qB hsB
                  refine hK.out _ _ trivial (fun hHeld => ?_)
                  clear hK K
                  refine wpAnyH_take (i := 10) (oi := ⟨some 4, _, _, _, _, _⟩) (v := .slice A12 n12 c12) rfl (by kernel_rfl) (by kernel_rfl) (by kernel_rfl) (fun _ _ _ h => h) (Or.inl ⟨by rfl, ?_⟩) (by assumption) ?_
                  · intro w hSw; (try dsimp only at hSw); go_simp
                  simp only [Act.put, List.setIfInBounds_toArray, List.set_cons_zero, List.set_cons_succ]
                  refine wpAnyH_done (by kernel_rfl) ?_ _
                  have hfin : (Nt.drop M j).row.length = n12 := (by have h1 := HPE.out.length_eq; have h2 := HN12.out; exact h1.symm.trans h2.symm)
                  have hprf := HPE.out
                  obtain ⟨M9, hM9⟩ : ∃ m : Nt.Md, m = (Nt.drop M j) := ⟨_, rfl⟩
                  have hprf : (L.take k' ++ L.drop (k' + 1)).Perm M9.row := by rw [hM9]; exact hprf
                  rw [← hM9] at o12 hfin
                  have PRF := Lib.hid hprf
                  clear hM9 hprf
                  have HFN := Lib.hid hfin
                  clear hfin
                  go_wp2_with fail
                  refine (ntLen_any o12).mono ?_
                  rintro e w90 ⟨rfl, rfl⟩
                  rw [HFN.out]
                  go_wp2_with fail
                  refine (ntAll_any o12).mono ?_
                  rintro e w91 ⟨v9, rfl, p9, k9⟩
                  have o9 := (o12).low k9
                  have q9 := (q12).low k9
                  obtain ⟨A9, c9, rfl, -, -⟩ := p9.shape
                  have hb9 := k9.size
                  clear k9
                  go_wp2_with fail
                  refine (fits8_any o9.net.ok p9).mono ?_
                  rintro e w92 ⟨rfl, k92⟩
                  have O92 := Lib.hid (o9.low k92)
                  have Q92 := Lib.hid (q9.low k92)
                  clear o9 q9 p9 k92 hb9
                  go_wp2
                  go_roundw
                  case rel => exact ⟨k + 1, M9, L.take k' ++ L.drop (k' + 1), rfl, hlt, O92.out, Q92.out, PRF.out⟩
                  case measure => simp [intOf]; omega
                · have htf : Nt.there M x.i = false := by cases h : Nt.there M x.i; rfl; exact absurd h ht
                  have htk : Nt.lose M x.i = (M, 4) := by simp [Nt.lose, htf]
                  rw [htk] at o6 ⊢
                  rw [htf]
                  clear htk ht htf g6 pa6
                  have hfin : M.row.length = n := HLL.out.symm
                  have hprf := PR.out
                  obtain ⟨M9, hM9⟩ : ∃ m : Nt.Md, m = M := ⟨_, rfl⟩
                  have hprf : (L).Perm M9.row := by rw [hM9]; exact hprf
                  rw [← hM9] at o6 hfin
                  have PRF := Lib.hid hprf
                  clear hM9 hprf
                  have HFN := Lib.hid hfin
                  clear hfin
                  go_wp2_with fail
                  refine (ntLen_any o6).mono ?_
                  rintro e w90 ⟨rfl, rfl⟩
                  rw [HFN.out]
                  go_wp2_with fail
                  refine (ntAll_any o6).mono ?_
                  rintro e w91 ⟨v9, rfl, p9, k9⟩
                  have o9 := (o6).low k9
                  have q9 := (q6).low k9
                  obtain ⟨A9, c9, rfl, -, -⟩ := p9.shape
                  have hb9 := k9.size
                  clear k9
                  go_wp2_with fail
                  refine (fits8_any o9.net.ok p9).mono ?_
                  rintro e w92 ⟨rfl, k92⟩
                  have O92 := Lib.hid (o9.low k92)
                  have Q92 := Lib.hid (q9.low k92)
                  clear o9 q9 p9 k92 hb9
                  go_wp2
                  go_roundw
                  case rel => exact ⟨k + 1, M9, L, rfl, hlt, O92.out, Q92.out, PRF.out⟩
                  case measure => simp [intOf]; omega
              · by_cases e3 : x.a = 3
                · rw [e3] at d0
                  have E3 := Lib.hid e3
                  clear e0 e1 e2 e3
                  go_wp2_with fail
                  refine (ntDup_any o5 x.i).mono ?_
                  rintro e w6 ⟨rfl, s6⟩
                  have pa6 := pa.step o5 s6
                  have q6 := q5.step o5 s6
                  have g6 := (s6.turned.block N (Sm.lt_of g5) (fun e => hrN (Option.some.inj e))).trans g5
                  have o6 := s6.own
                  clear pa q5 g5 s6 o5 d0 d1 d2 d3 d4
                  rcases Nt.dup_cases M x.i with ⟨ht, hdc⟩ | ⟨er, her, hdc⟩
                  · obtain ⟨j, hj⟩ : ∃ j : Nat, x.i = (j : Int) := ⟨x.i.toNat, by have := Nt.there_iff.1 ht; omega⟩
                    have hjl : j < M.row.length := by have := Nt.there_iff.1 ht; omega
                    have hat : Nt.at_ M x.i = M.row[j] := by rw [hj]; exact Nt.at_get hjl
                    rw [hat] at hdc
                    rw [hdc] at o6 ⊢
                    rw [ht]
                    have HJ := Lib.hid hj
                    obtain ⟨pk, hpk⟩ : ∃ p, p = M.row[j] := ⟨_, rfl⟩
                    rw [← hpk] at o6
                    have HPK := Lib.hid hpk
                    clear hdc hat hj ht hpk
                    obtain ⟨ga, hga, -, x0, x1, x2⟩ := pa6.get hjl
                    subst hga
                    rw [← HPK.out] at x0 x1 x2
                    have d4 := Sm.cells_of g6 4 _ rfl
                    rw [HJ.out] at d4
                    have hji : (j : Int) < (M.row.length : Int) := by omega
                    have b7 : Below w6.heap.size w6 (w6.alloc (.cells #[.int .i64 pk.f, .int .i64 pk.t, .string pk.d] 25)) := (Below.refl _ w6).alloc (Nat.le_refl _) _
                    have g7 := heap_alloc_new w6 (.cells #[.int .i64 pk.f, .int .i64 pk.t, .string pk.d] 25)
                    have o7 := o6.low b7
                    have q7 := q6.low b7
                    have HB7 := Lib.hid o7.size
                    have HQ7 := Lib.hid q7
                    have HG7 := Lib.hid (Sm.range_row (cs := pk.cells) g7)
                    have HO7 := Lib.hid o7
                    clear b7 g7 o7 q7 o6 q6 pa6 g6
                    go_wp2_with (at_builtin; refine Nt.wpList_append_pk rfl _ _ rfl (B := W.heap.size) (l := L) rfl HQ7.out HB7.out pk (N := w6.heap.size) rfl HG7.out (by have := HN.out; omega) ?_
                                 intro v8 w8 q8 hd8)
                    have o8 := HO7.out.push HQ7.out q8 hd8
                    clear hd8 x0 x1 x2 d4
                    obtain ⟨A8, c8, hv8⟩ := Sm.own_shape q8
                    obtain ⟨n8, hn8⟩ : ∃ n, n = (L ++ [pk]).length := ⟨_, rfl⟩
                    rw [← hn8] at hv8
                    subst hv8
                    have HN8 := Lib.hid hn8
                    clear hn8
                    have hfin : (⟨M.row ++ [pk], M.parted⟩ : Nt.Md).row.length = n8 := (by rw [HN8.out]; simp; have := HN.out; have := HLL.out; omega)
                    have hprf := (PR.out.append (List.Perm.refl [pk]))
                    obtain ⟨M9, hM9⟩ : ∃ m : Nt.Md, m = (⟨M.row ++ [pk], M.parted⟩ : Nt.Md) := ⟨_, rfl⟩
                    have hprf : (L ++ [pk]).Perm M9.row := by rw [hM9]; exact hprf
                    rw [← hM9] at o8 hfin
                    have PRF := Lib.hid hprf
                    clear hM9 hprf
                    have HFN := Lib.hid hfin
                    clear hfin
                    go_wp2_with fail
                    refine (ntLen_any o8).mono ?_
                    rintro e w90 ⟨rfl, rfl⟩
                    rw [HFN.out]
                    go_wp2_with fail
                    refine (ntAll_any o8).mono ?_
                    rintro e w91 ⟨v9, rfl, p9, k9⟩
                    have o9 := (o8).low k9
                    have q9 := (q8).low k9
                    obtain ⟨A9, c9, rfl, -, -⟩ := p9.shape
                    have hb9 := k9.size
                    clear k9
                    go_wp2_with fail
                    refine (fits8_any o9.net.ok p9).mono ?_
                    rintro e w92 ⟨rfl, k92⟩
                    have O92 := Lib.hid (o9.low k92)
                    have Q92 := Lib.hid (q9.low k92)
                    clear o9 q9 p9 k92 hb9
                    go_wp2
                    go_roundw
                    case rel => exact ⟨k + 1, M9, L ++ [pk], rfl, hlt, O92.out, Q92.out, PRF.out⟩
                    case measure => simp [intOf]; omega
                  · rw [hdc] at o6 ⊢
                    have hne : (er == 0) = false := beq_eq_false_iff_ne.2 her
                    clear hdc g6 pa6
                    have hfin : M.row.length = n := HLL.out.symm
                    have hprf := PR.out
                    obtain ⟨M9, hM9⟩ : ∃ m : Nt.Md, m = M := ⟨_, rfl⟩
                    have hprf : (L).Perm M9.row := by rw [hM9]; exact hprf
                    rw [← hM9] at o6 hfin
                    have PRF := Lib.hid hprf
                    clear hM9 hprf
                    have HFN := Lib.hid hfin
                    clear hfin
                    go_wp2_with fail
                    refine (ntLen_any o6).mono ?_
                    rintro e w90 ⟨rfl, rfl⟩
                    rw [HFN.out]
                    go_wp2_with fail
                    refine (ntAll_any o6).mono ?_
                    rintro e w91 ⟨v9, rfl, p9, k9⟩
                    have o9 := (o6).low k9
                    have q9 := (q6).low k9
                    obtain ⟨A9, c9, rfl, -, -⟩ := p9.shape
                    have hb9 := k9.size
                    clear k9
                    go_wp2_with fail
                    refine (fits8_any o9.net.ok p9).mono ?_
                    rintro e w92 ⟨rfl, k92⟩
                    have O92 := Lib.hid (o9.low k92)
                    have Q92 := Lib.hid (q9.low k92)
                    clear o9 q9 p9 k92 hb9
                    go_wp2
                    go_roundw
                    case rel => exact ⟨k + 1, M9, L, rfl, hlt, O92.out, Q92.out, PRF.out⟩
                    case measure => simp [intOf]; omega
                · by_cases e4 : x.a = 4
                  · rw [e4] at d0
                    have E4 := Lib.hid e4
                    clear e0 e1 e2 e3 e4
                    have PA := Lib.hid (ntPart_any o5 (x.i.tmod 2 != 0))
                    go_wp2_with fail
                    refine PA.out.mono ?_
                    rintro e w6 ⟨rfl, s6⟩
                    have q6 := q5.step o5 s6
                    have o6 := s6.own
                    clear pa q5 g5 s6 o5 d0 d1 d2 d3 d4 PA
                    have hfin : ({ M with parted := x.i.tmod 2 != 0 } : Nt.Md).row.length = n := HLL.out.symm
                    have hprf := PR.out
                    obtain ⟨M9, hM9⟩ : ∃ m : Nt.Md, m = ({ M with parted := x.i.tmod 2 != 0 } : Nt.Md) := ⟨_, rfl⟩
                    have hprf : (L).Perm M9.row := by rw [hM9]; exact hprf
                    rw [← hM9] at o6 hfin
                    have PRF := Lib.hid hprf
                    clear hM9 hprf
                    have HFN := Lib.hid hfin
                    clear hfin
                    go_wp2_with fail
                    refine (ntLen_any o6).mono ?_
                    rintro e w90 ⟨rfl, rfl⟩
                    rw [HFN.out]
                    go_wp2_with fail
                    refine (ntAll_any o6).mono ?_
                    rintro e w91 ⟨v9, rfl, p9, k9⟩
                    have o9 := (o6).low k9
                    have q9 := (q6).low k9
                    obtain ⟨A9, c9, rfl, -, -⟩ := p9.shape
                    have hb9 := k9.size
                    clear k9
                    go_wp2_with fail
                    refine (fits8_any o9.net.ok p9).mono ?_
                    rintro e w92 ⟨rfl, k92⟩
                    have O92 := Lib.hid (o9.low k92)
                    have Q92 := Lib.hid (q9.low k92)
                    clear o9 q9 p9 k92 hb9
                    go_wp2
                    go_roundw
                    case rel => exact ⟨k + 1, M9, L, rfl, hlt, O92.out, Q92.out, PRF.out⟩
                    case measure => simp [intOf]; omega
                  · clear pa g5 d1 d2 d3 d4
                    have hfin : M.row.length = n := HLL.out.symm
                    have hprf := PR.out
                    obtain ⟨M9, hM9⟩ : ∃ m : Nt.Md, m = M := ⟨_, rfl⟩
                    have hprf : (L).Perm M9.row := by rw [hM9]; exact hprf
                    rw [← hM9] at o5 hfin
                    have PRF := Lib.hid hprf
                    clear hM9 hprf
                    have HFN := Lib.hid hfin
                    clear hfin
                    go_wp2_with fail
                    refine (ntLen_any o5).mono ?_
                    rintro e w90 ⟨rfl, rfl⟩
                    rw [HFN.out]
                    go_wp2_with fail
                    refine (ntAll_any o5).mono ?_
                    rintro e w91 ⟨v9, rfl, p9, k9⟩
                    have o9 := (o5).low k9
                    have q9 := (q5).low k9
                    obtain ⟨A9, c9, rfl, -, -⟩ := p9.shape
                    have hb9 := k9.size
                    clear k9
                    go_wp2_with fail
                    refine (fits8_any o9.net.ok p9).mono ?_
                    rintro e w92 ⟨rfl, k92⟩
                    have O92 := Lib.hid (o9.low k92)
                    have Q92 := Lib.hid (q9.low k92)
                    clear o9 q9 p9 k92 hb9
                    go_wp2
                    go_roundw
                    case rel => exact ⟨k + 1, M9, L, rfl, hlt, O92.out, Q92.out, PRF.out⟩
                    case measure => simp [intOf]; omega
      · have hlt1 : ¬ (k : Int) < l.length := by omega
        have b := o.below
        clear o q
        go_wp2
        go_ret
        exact ⟨rfl, b⟩
end Go.Proofs.Ytimbcmcmidnlfaa
