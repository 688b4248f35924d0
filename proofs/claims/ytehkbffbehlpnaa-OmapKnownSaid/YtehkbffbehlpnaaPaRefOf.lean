/-
  The document's Of and Ships.
-/
import Derived.Test.YtehkbffbehlpnaaPaOf
import Derived.Test.YtehkbffbehlpnaaPaRefCut
namespace Go.Proofs.Ytehkbffbehlpnaa
open Go.RowKit
set_option maxRecDepth 100000 in
set_option maxHeartbeats 1000000 in
theorem r11Of_any {w : World} {A : Option Addr} {l : List Pa.Mo} (c : Nat) (hit : Pa.listAt w A l) (hl : l.length ≤ 9223372036854775807) (p : ByteArray) (hp : p.size ≤ 281474976710656) :
    Calls Try.prog 71 #[.slice A l.length c, .string p] w fun e w' => e = .returned (Pa.ofV (Pa.of3 l p.data.toList)) ∧ Below w.heap.size w w' := by
  obtain ⟨N, hN⟩ : ∃ N, N = w.heap.size := ⟨_, rfl⟩
  obtain ⟨w1, hw1⟩ : ∃ x, x = w.alloc (.cells #[.string ⟨#[]⟩, .bool false] 89) := ⟨_, rfl⟩
  have b1 : Below N w w1 := by rw [hw1]; exact (Below.refl _ w).alloc (by omega) _
  have g1 : w1.heap[N]? = some (.cells #[.string ⟨#[]⟩, .bool false] 89 (0, 0)) := by rw [hw1, hN]; exact heap_alloc_new w _
  have NL : N ≤ w1.heap.size := hN ▸ b1.size
  have hit1 := hit.below (hN ▸ b1)
  have CU := Lib.hid (r11Cut_any w1 p hp)
  obtain ⟨nm, hnm⟩ : ∃ x, x = Pa.nameOf p.data.toList := ⟨_, rfl⟩
  obtain ⟨ky, hky⟩ : ∃ x : ByteArray, x = ⟨(Pa.cutB p.data.toList).toArray⟩ := ⟨_, rfl⟩
  have ecut : Pa.cutV p.data.toList = .tuple #[.string nm, .string ky, .bool (Pa.ok p.data.toList)] := by rw [hnm, hky]; rfl
  rw [ecut] at CU
  have HW1 := Lib.hid hw1
  have HN := Lib.hid hN
  have HIT := Lib.hid hit1
  have G1 := Lib.hid g1
  have B1 := Lib.hid b1
  rw [← hN]
  clear hit hit1 ecut hky b1 g1 hw1 hN
  cases ho : Pa.ok p.data.toList
  · have E := Lib.hid (Pa.of_bad (l := l) ho)
    rw [ho] at CU
    rw [E.out]
    clear ho hnm
    go_enter Try.func71, Try.ntmps71
    go_wp2_with fail
    rw [← HW1.out, ← HN.out]
    refine CU.out.mono ?_
    rintro e w2 ⟨rfl, b2⟩
    have g2 := (b2.block N (Sm.lt_of G1.out)).trans G1.out
    have x0 := Sm.cells_of g2 0 _ rfl
    have x1 := Sm.cells_of g2 1 _ rfl
    have f0 := Sm.free_of g2 0
    have f1 := Sm.free_of g2 1
    have b3 := B1.out.trans (b2.mono NL)
    have B3 := Lib.hid b3
    clear b2 b3 g2
    go_wp2
    refine bodyPost_ret (v := .tuple #[.agg #[.string ⟨#[]⟩, .bool false], .int .i64 20]) ((results_cell_tmp rfl _ _ _).trans (by go_simp)) rfl ⟨rfl, ?_⟩
    exact Pa.below_two B3.out _ _
  · rw [ho] at CU
    have EB : Hid (Pa.first nm l = none → Pa.ofV (Pa.of3 l p.data.toList) = .tuple #[.agg #[.string ⟨#[]⟩, .bool false], .int .i64 21]) := fun hf => by rw [Pa.of_none ho (by rw [← hnm]; exact hf)]; rfl
    have EG : Hid (∀ m, Pa.first nm l = some m → Pa.ofV (Pa.of3 l p.data.toList) = .tuple #[.agg #[.string nm, .bool m.s], .int .i64 0]) := fun m hf => by rw [Pa.of_some ho (by rw [← hnm]; exact hf), ← hnm]; rfl
    clear ho hnm
    obtain ⟨RV, hRV⟩ : ∃ v, v = Pa.ofV (Pa.of3 l p.data.toList) := ⟨_, rfl⟩
    rw [← hRV] at EB EG ⊢
    clear hRV
    go_enter Try.func71, Try.ntmps71
    go_wp2_with fail
    rw [← HW1.out, ← HN.out]
    refine CU.out.mono ?_
    rintro e w2 ⟨rfl, b2⟩
    have HIT2 := Lib.hid (HIT.out.below b2)
    have g2 := (b2.block N (Sm.lt_of G1.out)).trans G1.out
    have x0 := Sm.cells_of g2 0 _ rfl
    have x1 := Sm.cells_of g2 1 _ rfl
    have f0 := Sm.free_of g2 0
    have f1 := Sm.free_of g2 1
    have B3 := Lib.hid (B1.out.trans (b2.mono NL))
    have L2 : w1.heap.size ≤ w2.heap.size := b2.size
    clear b2 g2
    go_wp2
    go_loopw [9] (fun s9 wr => ∃ i : Nat, s9 = .int .i64 i ∧ i ≤ l.length ∧ (∀ j (h : j < l.length), j < i → Pa.same l[j].n nm = false) ∧ w2 = wr) (fun s9 _ => l.length - (intOf s9).toNat)
    case atStart => exact ⟨0, rfl, Nat.zero_le _, fun j _ h => absurd h (Nat.not_lt_zero _), rfl⟩
    case round =>
      obtain ⟨i, rfl, hi, hall, rfl⟩ := hrel
      have HA := Lib.hid hall
      clear hall
      by_cases hil : i < l.length
      · have hii : (i : Int) < l.length := by omega
        have hsuc : IntKind.i64.wrap ((i : Int) + 1) = ((i + 1 : Nat) : Int) := by simp [IntKind.wrap, IntKind.bits, IntKind.signed]; omega
        obtain ⟨b, off, rfl, hb, hm⟩ : ∃ b off, A = some ⟨b, off, none⟩ ∧ b < w2.heap.size ∧ Pa.mosAt w2 b off l := by
          rcases HIT2.out with rfl | ⟨b, off, h1, h2, h3⟩
          · exact absurd hil (Nat.not_lt_zero _)
          · exact ⟨b, off, h1, h2, h3⟩
        obtain ⟨y0, y1⟩ := hm i hil
        obtain ⟨xn, hxn⟩ : ∃ x, x = l[i].n := ⟨_, rfl⟩
        obtain ⟨xs, hxs⟩ : ∃ x, x = l[i].s := ⟨_, rfl⟩
        rw [← hxn] at y0
        rw [← hxs] at y1
        have HX := Lib.hid hxn
        have HS := Lib.hid hxs
        clear hxn hxs hm
        by_cases hs : Pa.same xn nm = true
        · have hq2 : (xn.toList == nm.toList) = true := hs
          have ev := EG.out _ (Pa.first_at hil (by rw [← HX.out]; exact hs) HA.out)
          rw [← HS.out] at ev
          have hxe : xn = nm := Pa.same_iff.1 hs
          have EV := Lib.hid ev
          have HXE := Lib.hid hxe
          clear hs ev hxe
          go_wp2
          refine bodyPost_ret (v := .tuple #[.agg #[.string xn, .bool xs], .int .i64 0]) ((results_cell_tmp rfl _ _ _).trans (by go_simp)) rfl ⟨?_, ?_⟩
          · rw [EV.out, HXE.out]
          · exact Pa.below_two B3.out _ _
        · have hs0 : Pa.same xn nm = false := by simpa using hs
          have hq2 : (xn.toList == nm.toList) = false := hs0
          have hnext : ∀ j (h : j < l.length), j < i + 1 → Pa.same l[j].n nm = false := fun j h hj => by
            by_cases e : j = i
            · subst e; rw [← HX.out]; exact hs0
            · exact HA.out j h (by omega)
          have HN2 := Lib.hid hnext
          clear hnext hs hs0
          go_wp2
          go_roundw
          case rel => exact ⟨i + 1, rfl, by omega, HN2.out, by trivial⟩
          case measure => simp only [intOf]; omega
      · have hii : ¬ (i : Int) < l.length := by omega
        have EV := Lib.hid (EB.out (Pa.first_none fun j h => HA.out j h (by omega)))
        go_wp2
        refine bodyPost_ret (v := .tuple #[.agg #[.string ⟨#[]⟩, .bool false], .int .i64 21]) ((results_cell_tmp rfl _ _ _).trans (by go_simp)) rfl ⟨?_, ?_⟩
        · rw [EV.out]
        · exact Pa.below_two B3.out _ _
set_option maxRecDepth 100000 in
set_option maxHeartbeats 1000000 in
theorem r11Ships_any {w : World} {A : Option Addr} {l : List Pa.Mo} (c : Nat) (hit : Pa.listAt w A l) (hl : l.length ≤ 9223372036854775807) (p : ByteArray) (hp : p.size ≤ 281474976710656) :
    Calls Try.prog 52 #[.slice A l.length c, .string p] w fun e w' => e = .returned (.bool (Pa.ships l p.data.toList)) ∧ Below w.heap.size w w' := by
  have OF := Lib.hid (r11Of_any c hit hl p hp)
  obtain ⟨q, hq⟩ : ∃ q, q = Pa.ships l p.data.toList := ⟨_, rfl⟩
  rw [← hq]
  obtain ⟨n, s, e, hx⟩ : ∃ n s e, Pa.of3 l p.data.toList = (n, s, e) := ⟨_, _, _, rfl⟩
  unfold Pa.ships at hq
  rw [hx] at hq
  have hv : Pa.ofV (Pa.of3 l p.data.toList) = .tuple #[.agg #[.string n, .bool s], .int .i64 e] := by rw [hx]; rfl
  rw [hv] at OF
  simp only at hq
  clear hit hx hv
  by_cases he : e = 0
  · have heb : (e == 0) = true := by rw [he]; rfl
    have hqs : q = s := by rw [hq, he]; simp
    subst hqs
    clear hq
    have HE := Lib.hid he
    clear he
    go_enter Try.func52, Try.ntmps52
    go_wp2_with fail
    refine OF.out.mono ?_
    rintro e1 w1 ⟨rfl, b1⟩
    have g1 := heap_alloc_new w1 (.cells #[.string n, .bool q] 89)
    have x1 := Sm.cells_of g1 1 _ rfl
    have B2 := Lib.hid (b1.trans (((Below.refl w1.heap.size w1).alloc (Nat.le_refl _) (.cells #[.string n, .bool q] 89)).mono b1.size))
    clear b1 g1
    have he2 : e = 0 := HE.out
    go_wp2
    go_ret
    exact ⟨rfl, B2.out⟩
  · have heb : (e == 0) = false := by simpa using he
    have hqs : q = false := by rw [hq]; simp [he]
    subst hqs
    clear hq
    go_enter Try.func52, Try.ntmps52
    go_wp2_with fail
    refine OF.out.mono ?_
    rintro e1 w1 ⟨rfl, b1⟩
    have B2 := Lib.hid (b1.trans (((Below.refl w1.heap.size w1).alloc (Nat.le_refl _) (.cells #[.string n, .bool s] 89)).mono b1.size))
    clear b1
    go_wp2
    go_ret
    exact ⟨rfl, B2.out⟩
end Go.Proofs.Ytehkbffbehlpnaa
