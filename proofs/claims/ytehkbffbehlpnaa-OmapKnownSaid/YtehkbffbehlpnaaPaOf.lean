/-
  path's Of and Ships.
-/
import Derived.Test.YtehkbffbehlpnaaPaFind
namespace Go.Proofs.Ytehkbffbehlpnaa
open Go.RowKit
namespace Pa
/-- A path's mount's name. -/
def nameOf (p : List UInt8) : ByteArray := ⟨(cutA p).toArray⟩
/-- What Of answers: the mount's name, its Ship, the error. -/
def of3 (l : List Mo) (p : List UInt8) : ByteArray × Bool × Int :=
  if ok p then (match first (nameOf p) l with | none => (⟨#[]⟩, false, 21) | some m => (nameOf p, m.s, 0)) else (⟨#[]⟩, false, 20)
def ofV (x : ByteArray × Bool × Int) : Value := .tuple #[.agg #[.string x.1, .bool x.2.1], .int .i64 x.2.2]
/-- Is a path shipped? -/
def ships (l : List Mo) (p : List UInt8) : Bool := decide ((of3 l p).2.2 = 0) && (of3 l p).2.1
theorem of_bad {l : List Mo} {p : List UInt8} (h : ok p = false) : of3 l p = (⟨#[]⟩, false, 20) := by unfold of3; rw [h]; rfl
theorem of_none {l : List Mo} {p : List UInt8} (h : ok p = true) (hf : first (nameOf p) l = none) : of3 l p = (⟨#[]⟩, false, 21) := by unfold of3; rw [h, hf]; rfl
theorem of_some {l : List Mo} {p : List UInt8} {m : Mo} (h : ok p = true) (hf : first (nameOf p) l = some m) : of3 l p = (nameOf p, m.s, 0) := by unfold of3; rw [h, hf]; rfl
/-- The second half: two cells stored into a block of one's own. -/
theorem below_two {N : Nat} {w w1 : World} (h : Below N w w1) (x y : Value) : Below N w ((w1.setCell ⟨N, 0, none⟩ x).setCell ⟨N, 1, none⟩ y) :=
  (h.setCell (p := ⟨N, 0, none⟩) (Nat.le_refl _) _).setCell (p := ⟨N, 1, none⟩) (Nat.le_refl _) _
end Pa
set_option maxRecDepth 100000 in
set_option maxHeartbeats 1000000 in
theorem paOf_any {w : World} {A : Option Addr} {l : List Pa.Mo} (c : Nat) (hit : Pa.listAt w A l) (hl : l.length ≤ 9223372036854775807) (p : ByteArray) (hp : p.size ≤ 281474976710656) :
    Calls Try.prog 70 #[.slice A l.length c, .string p] w fun e w' => e = .returned (Pa.ofV (Pa.of3 l p.data.toList)) ∧ Below w.heap.size w w' := by
  obtain ⟨N, hN⟩ : ∃ N, N = w.heap.size := ⟨_, rfl⟩
  obtain ⟨w1, hw1⟩ : ∃ x, x = w.alloc (.cells #[.string ⟨#[]⟩, .bool false] 89) := ⟨_, rfl⟩
  have b1 : Below N w w1 := by rw [hw1]; exact (Below.refl _ w).alloc (by omega) _
  have g1 : w1.heap[N]? = some (.cells #[.string ⟨#[]⟩, .bool false] 89 (0, 0)) := by rw [hw1, hN]; exact heap_alloc_new w _
  have NL : N ≤ w1.heap.size := hN ▸ b1.size
  have hit1 := hit.below (hN ▸ b1)
  have CU := Lib.hid (paCut_any w1 p hp)
  obtain ⟨nm, hnm⟩ : ∃ x, x = Pa.nameOf p.data.toList := ⟨_, rfl⟩
  obtain ⟨ky, hky⟩ : ∃ x : ByteArray, x = ⟨(Pa.cutB p.data.toList).toArray⟩ := ⟨_, rfl⟩
  have ecut : Pa.cutV p.data.toList = .tuple #[.string nm, .string ky, .bool (Pa.ok p.data.toList)] := by rw [hnm, hky]; rfl
  rw [ecut] at CU
  have HW1 := Lib.hid hw1
  have HN := Lib.hid hN
  have HIT := Lib.hid hit1
  have G1 := Lib.hid g1
  have B1 := Lib.hid b1
  rw [← hN]
  clear hit hit1 ecut hky b1 g1 hw1 hN
  cases ho : Pa.ok p.data.toList
  · have E := Lib.hid (Pa.of_bad (l := l) ho)
    rw [ho] at CU
    rw [E.out]
    clear ho hnm
    go_enter Try.func70, Try.ntmps70
    go_wp2_with fail
    rw [← HW1.out, ← HN.out]
    refine CU.out.mono ?_
    rintro e w2 ⟨rfl, b2⟩
    have g2 := (b2.block N (Sm.lt_of G1.out)).trans G1.out
    have x0 := Sm.cells_of g2 0 _ rfl
    have x1 := Sm.cells_of g2 1 _ rfl
    have f0 := Sm.free_of g2 0
    have f1 := Sm.free_of g2 1
    have b3 := B1.out.trans (b2.mono NL)
    have B3 := Lib.hid b3
    clear b2 b3 g2
    go_wp2
    refine bodyPost_ret (v := .tuple #[.agg #[.string ⟨#[]⟩, .bool false], .int .i64 20]) ((results_cell_tmp rfl _ _ _).trans (by go_simp)) rfl ⟨rfl, ?_⟩
    exact Pa.below_two B3.out _ _
  · rw [ho] at CU
    rcases Pa.pos_cases nm l with ⟨hpos, hfi, -⟩ | ⟨i, hi, hpos, hfi, hsame, -⟩
    · have E := Lib.hid (Pa.of_none ho (by rw [← hnm]; exact hfi))
      rw [E.out]
      have FI : Hid (∀ wx, Pa.listAt wx A l → Calls Try.prog 79 #[.slice A l.length c, .string nm] wx fun e w' => e = .returned (.int .i64 (-1)) ∧ Below wx.heap.size wx w') := fun wx hx => by
        have := paFind_any c hx hl nm
        rwa [hpos] at this
      clear ho hnm hpos hfi
      go_enter Try.func70, Try.ntmps70
      go_wp2_with fail
      rw [← HW1.out, ← HN.out]
      refine CU.out.mono ?_
      rintro e w2 ⟨rfl, b2⟩
      have HIT2 := Lib.hid (HIT.out.below b2)
      have g2 := (b2.block N (Sm.lt_of G1.out)).trans G1.out
      have b3 := B1.out.trans (b2.mono NL)
      clear b2
      go_wp2_with fail
      refine (FI.out w2 HIT2.out).mono ?_
      rintro e w3 ⟨rfl, b4⟩
      have g3 := (b4.block N (Sm.lt_of g2)).trans g2
      have x0 := Sm.cells_of g3 0 _ rfl
      have x1 := Sm.cells_of g3 1 _ rfl
      have f0 := Sm.free_of g3 0
      have f1 := Sm.free_of g3 1
      have B5 := Lib.hid (b3.trans (b4.mono (Nat.le_trans (Nat.le_of_eq HN.out) b3.size)))
      clear b3 b4 g2 g3
      go_wp2
      refine bodyPost_ret (v := .tuple #[.agg #[.string ⟨#[]⟩, .bool false], .int .i64 21]) ((results_cell_tmp rfl _ _ _).trans (by go_simp)) rfl ⟨rfl, ?_⟩
      exact Pa.below_two B5.out _ _
    · have E := Lib.hid (Pa.of_some ho (by rw [← hnm]; exact hfi))
      rw [E.out, ← hnm]
      have FI : Hid (∀ wx, Pa.listAt wx A l → Calls Try.prog 79 #[.slice A l.length c, .string nm] wx fun e w' => e = .returned (.int .i64 (i : Int)) ∧ Below wx.heap.size wx w') := fun wx hx => by
        have := paFind_any c hx hl nm
        rwa [hpos] at this
      obtain ⟨b, off, rfl, hb, hm⟩ : ∃ b off, A = some ⟨b, off, none⟩ ∧ b < w1.heap.size ∧ Pa.mosAt w1 b off l := by
        rcases HIT.out with rfl | ⟨b, off, h1, h2, h3⟩
        · exact absurd hi (Nat.not_lt_zero _)
        · exact ⟨b, off, h1, h2, h3⟩
      have HM := Lib.hid hm
      have hii : (i : Int) < l.length := by omega
      have hi0 : ¬ (i : Int) < 0 := by omega
      obtain ⟨sh, hsh⟩ : ∃ x, x = l[i].s := ⟨_, rfl⟩
      rw [← hsh]
      have HSH := Lib.hid hsh
      clear ho hnm hpos hfi hsame hm hsh
      go_enter Try.func70, Try.ntmps70
      go_wp2_with fail
      rw [← HW1.out, ← HN.out]
      refine CU.out.mono ?_
      rintro e w2 ⟨rfl, b2⟩
      have HIT2 := Lib.hid (HIT.out.below b2)
      have HM2 := Lib.hid (HM.out.below b2 hb)
      have hb2 : b < w2.heap.size := Nat.lt_of_lt_of_le hb b2.size
      have g2 := (b2.block N (Sm.lt_of G1.out)).trans G1.out
      have b3 := B1.out.trans (b2.mono NL)
      clear b2
      go_wp2_with fail
      refine (FI.out w2 HIT2.out).mono ?_
      rintro e w3 ⟨rfl, b4⟩
      have g3 := (b4.block N (Sm.lt_of g2)).trans g2
      have x0 := Sm.cells_of g3 0 _ rfl
      have x1 := Sm.cells_of g3 1 _ rfl
      have f0 := Sm.free_of g3 0
      have f1 := Sm.free_of g3 1
      have cs := (HM2.out.below b4 hb2 i hi).2
      rw [← HSH.out] at cs
      have B5 := Lib.hid (b3.trans (b4.mono (Nat.le_trans (Nat.le_of_eq HN.out) b3.size)))
      clear b3 b4 g2 g3
      go_wp2
      refine bodyPost_ret (v := .tuple #[.agg #[.string nm, .bool sh], .int .i64 0]) ((results_cell_tmp rfl _ _ _).trans (by go_simp)) rfl ⟨rfl, ?_⟩
      exact Pa.below_two B5.out _ _
end Go.Proofs.Ytehkbffbehlpnaa
