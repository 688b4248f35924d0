/-
  The document's own disk: Read.
-/
import Derived.Test.YtnmagfodjcookaaGreatDkRefOf
namespace Go.Proofs.YtnmagfodjcookaaGreat
open Go.RowKit
namespace Dk
def readR (ls : List (List UInt8)) (ws : List (Nat × List UInt8)) (off : Bool) (i : Int) : List UInt8 × Int :=
  if off then ([], 14) else if 0 ≤ i ∧ i < ls.length then ((ofL ws i.toNat).getLastD (ls.getD i.toNat []), 0) else ([], 1)
theorem read_like {M : Md} {ws : List (Nat × List UInt8)} (h : Like M ws) (i : Int) : readOf M i = readR M.lasts ws M.off i := by
  unfold readOf readR
  split
  · rfl
  · by_cases ht : there M i = true
    · rw [if_pos ht, if_pos (there_iff.1 ht), seen, h.waits]; rfl
    · rw [if_neg ht, if_neg (fun e => ht (there_iff.2 e))]
theorem own_at {w : World} {B e : Nat} {A : Option Addr} {c n : Nat} {xs : List Value} (ho : w.ownsRow B e 1 (.slice A n c) n xs) {j : Nat} (hj : j < n) : ∃ g, A = some ⟨g, 0, none⟩ ∧ w.cell? ⟨g, j, none⟩ = xs[j]? := by
  rcases ho.2 with ⟨_, h0⟩ | ⟨g, cap, cur, e1, h3, h4, h5, h6, h7, h8⟩
  · omega
  · simp only [Value.slice.injEq] at e1
    refine ⟨g, e1.1, ?_⟩
    rw [← h8, Nat.mul_one, List.getElem?_take, if_pos hj]
    simp [World.cell?, h4]
end Dk
set_option maxRecDepth 100000 in
set_option maxHeartbeats 1000000 in
theorem r7Read_any (w : World) (C : Nat) (A : Option Addr) (c d : Nat) (Bw : Option Addr) (ls : List (List UInt8)) (ws : List (Nat × List UInt8)) (f : Int) (off : Bool) (hL : Dk.TextsAt w C (.slice A ls.length c) ls) (hw : Dk.WritesAt w C (.slice Bw ws.length d) ws) (hl : ws.length ≤ 1099511627776) (i : Int) :
    Calls Tryz.prog 50 #[.agg #[.slice A ls.length c, .slice Bw ws.length d, .int .i64 f, .bool off], .int .i64 i] w fun e w' => e = .returned (.tuple #[.string ⟨(Dk.readR ls ws off i).1.toArray⟩, .int .i64 (Dk.readR ls ws off i).2]) ∧ Below w.heap.size w w' := by
  have HL := Lib.hid hL
  have HW := Lib.hid hw
  have b1 : Below w.heap.size w (w.alloc (.cells #[.slice A ls.length c, .slice Bw ws.length d, .int .i64 f, .bool off] 33)) := (Below.refl _ w).alloc (Nat.le_refl _) _
  have B1 := Lib.hid b1
  clear hL hw b1
  cases off with
  | true =>
    have e : Dk.readR ls ws true i = ([], 14) := by simp [Dk.readR]
    rw [e]; clear e
    go_enter Tryz.func50, Tryz.ntmps50
    go_wp2
    go_ret2
    exact ⟨rfl, B1.out⟩
  | false =>
    by_cases h0 : i < 0
    · have e : Dk.readR ls ws false i = ([], 1) := by simp [Dk.readR]; omega
      rw [e]; clear e
      go_enter Tryz.func50, Tryz.ntmps50
      go_wp2
      go_ret2
      exact ⟨rfl, B1.out⟩
    · by_cases h1 : (ls.length : Int) ≤ i
      · have e : Dk.readR ls ws false i = ([], 1) := by simp [Dk.readR]; omega
        rw [e]; clear e
        go_enter Tryz.func50, Tryz.ntmps50
        go_wp2
        go_ret2
        exact ⟨rfl, B1.out⟩
      · obtain ⟨k, rfl⟩ : ∃ k : Nat, i = (k : Int) := ⟨i.toNat, by omega⟩
        have hk : k < ls.length := by omega
        have e : Dk.readR ls ws false k = ((Dk.ofL ws k).getLastD (ls.getD k []), 0) := by simp [Dk.readR]; omega
        rw [e]; clear e
        obtain ⟨s, hs⟩ : ∃ s : ByteArray, s = ⟨((Dk.ofL ws k).getLastD (ls.getD k [])).toArray⟩ := ⟨_, rfl⟩
        rw [show ((Dk.ofL ws k).getLastD (ls.getD k []), (0 : Int)).1 = (Dk.ofL ws k).getLastD (ls.getD k []) from rfl, ← hs]
        have OF : Hid (∀ wx, Dk.WritesAt wx C (.slice Bw ws.length d) ws → Calls Tryz.prog 67 #[.agg #[.slice A ls.length c, .slice Bw ws.length d, .int .i64 f, .bool false], .int .i64 (k : Int)] wx fun e w' => ∃ v, e = .returned v ∧ w'.ownsRow wx.heap.size 9 1 v (Dk.ofL ws k).length ((Dk.ofL ws k).map Dk.txt) ∧ Below wx.heap.size wx w') := fun wx h => r7Of_any wx C A ls.length c d Bw ws f false h hl k
        have HS := Lib.hid hs
        have hle := Dk.ofL_le ws k
        clear hs
        have W1 : Hid (Dk.WritesAt (w.alloc (.cells #[.slice A ls.length c, .slice Bw ws.length d, .int .i64 f, .bool false] 33)) C (.slice Bw ws.length d) ws) := HW.out.below ((Below.refl _ w).alloc (Nat.le_refl _) _)
        have g1 := heap_alloc_new w (.cells #[.slice A ls.length c, .slice Bw ws.length d, .int .i64 f, .bool false] 33)
        have G1 := Lib.hid g1
        clear g1
        go_enter Tryz.func50, Tryz.ntmps50
        go_wp2_with fail
        refine (OF.out _ W1.out).mono ?_
        rintro e w2 ⟨v, rfl, ho, k2⟩
        have b2 := B1.out.trans (k2.mono B1.out.size)
        obtain ⟨Av, cv, rfl⟩ := Sm.own_shape ho
        have g2 := (k2.block w.heap.size (Sm.lt_of G1.out)).trans G1.out
        have B2 := Lib.hid b2
        have HO := Lib.hid ho
        clear ho k2 b2
        by_cases hz : Dk.ofL ws k = []
        · have hlen : (Dk.ofL ws k).length = 0 := by rw [hz]; rfl
          have y0 := Sm.cells_of g2 0 _ rfl
          obtain ⟨A', c', e1, h2⟩ := HL.out
          simp only [Value.slice.injEq] at e1
          rcases h2 with h2 | ⟨g, e2, e3, e4, h2⟩
          · rw [h2] at hk; simp at hk
          · have hA : A = some ⟨g, 0, none⟩ := e1.1.trans e2
            subst hA
            have x0 : w2.cell? ⟨g, k, none⟩ = some (.string s) := by
              rw [HS.out, hz]
              exact (B2.out.cell (p := ⟨g, k, none⟩) e4).trans (h2 k hk)
            clear h2 e1 e2 e3 g2
            go_wp2
            go_ret2
            exact ⟨rfl, B2.out⟩
        · have hpos : 0 < (Dk.ofL ws k).length := List.length_pos_iff.2 hz
          obtain ⟨g, rfl, hc⟩ := Dk.own_at HO.out (j := (Dk.ofL ws k).length - 1) (by omega)
          have x0 : w2.cell? ⟨g, (Dk.ofL ws k).length - 1, none⟩ = some (.string s) := by
            rw [hc, HS.out, List.getElem?_map, ← List.getLast?_eq_getElem?, List.getLast?_eq_some_getLast hz]
            simp only [Option.map_some, Dk.txt]
            rw [List.getLastD_eq_getLast?, List.getLast?_eq_some_getLast hz]; rfl
          have hpi : (0 : Int) < ((Dk.ofL ws k).length : Int) := by omega
          have hsu : IntKind.i64.wrap (((Dk.ofL ws k).length : Int) - 1) = (((Dk.ofL ws k).length - 1 : Nat) : Int) := by simp [IntKind.wrap, IntKind.bits, IntKind.signed]; omega
          have hlt1 : (Dk.ofL ws k).length - 1 < (Dk.ofL ws k).length := by omega
          clear hc g2
          go_wp2
          go_ret2
          exact ⟨rfl, B2.out⟩
end Go.Proofs.YtnmagfodjcookaaGreat
