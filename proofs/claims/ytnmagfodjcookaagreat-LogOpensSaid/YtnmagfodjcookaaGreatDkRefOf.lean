/-
  The document's own disk: the writes that wait for a sector.
-/
import Derived.Test.YtnmagfodjcookaaGreatDkRef
namespace Go.Proofs.YtnmagfodjcookaaGreat
open Go.RowKit
namespace Dk
abbrev txt (t : List UInt8) : Value := .string ⟨t.toArray⟩
theorem ofL_take {ws : List (Nat × List UInt8)} {k : Nat} (hk : k < ws.length) (i : Nat) : ofL (ws.take (k + 1)) i = if i = (ws.getD k (0, [])).1 then ofL (ws.take k) i ++ [(ws.getD k (0, [])).2] else ofL (ws.take k) i := by
  rw [List.take_succ_eq_append_getElem hk, List.getD_eq_getElem?_getD, List.getElem?_eq_getElem hk, Option.getD_some]
  exact ofL_snoc _ _ _ _
theorem ofL_le (ws : List (Nat × List UInt8)) (i : Nat) : (ofL ws i).length ≤ ws.length := by
  unfold ofL; rw [List.length_map]; exact List.length_filter_le _ _
theorem new_text (w : World) (s : ByteArray) : ∀ j u, [Value.string s][j]? = some u → (w.alloc (.cells #[.string s] 9)).cell? ((⟨w.heap.size, 0, none⟩ : Addr).add j) = some u := fun j u hj => by
  match j, hj with
  | 0, hj => simp at hj; subst hj; rw [Addr.add_mid]; exact Sm.cells_of (heap_alloc_new w (.cells #[.string s] 9)) 0 _ rfl
end Dk
set_option maxRecDepth 100000 in
set_option maxHeartbeats 1000000 in
theorem r7Of_any (w : World) (C : Nat) (A : Option Addr) (n c d : Nat) (Bw : Option Addr) (ws : List (Nat × List UInt8)) (f : Int) (off : Bool) (hw : Dk.WritesAt w C (.slice Bw ws.length d) ws) (hl : ws.length ≤ 1099511627776) (i : Nat) :
    Calls Tryz.prog 67 #[.agg #[.slice A n c, .slice Bw ws.length d, .int .i64 f, .bool off], .int .i64 (i : Int)] w fun e w' => ∃ v, e = .returned v ∧ w'.ownsRow w.heap.size 9 1 v (Dk.ofL ws i).length ((Dk.ofL ws i).map Dk.txt) ∧ Below w.heap.size w w' := by
  obtain ⟨i0, hie, hz0, hz1, hz2⟩ := info_parts Dk.info3_str
  have HW := Lib.hid hw
  have b1 : Below w.heap.size w (w.alloc (.cells #[.slice A n c, .slice Bw ws.length d, .int .i64 f, .bool off] 33)) := (Below.refl _ w).alloc (Nat.le_refl _) _
  have g1 := heap_alloc_new w (.cells #[.slice A n c, .slice Bw ws.length d, .int .i64 f, .bool off] 33)
  clear hw
  go_enter Tryz.func67, Tryz.ntmps67
  go_wp2
  generalize w.alloc (.cells #[.slice A n c, .slice Bw ws.length d, .int .i64 f, .bool off] 33) = w1 at *
  obtain ⟨N, hN⟩ : ∃ N, N = w.heap.size := ⟨_, rfl⟩
  rw [← hN] at g1 b1 ⊢
  have HN := Lib.hid hN
  clear hN
  go_loopw [5, 6] (fun s5 s6 wr => ∃ k : Nat, s6 = .int .i64 k ∧ k ≤ ws.length ∧ wr.ownsRow (N + 1) 9 1 s5 (Dk.ofL (ws.take k) i).length ((Dk.ofL (ws.take k) i).map Dk.txt) ∧ Below N w wr ∧ wr.heap[N]? = some (.cells #[.slice A n c, .slice Bw ws.length d, .int .i64 f, .bool off] 33)) (fun _ s6 _ => ws.length - (intOf s6).toNat)
  case atStart => exact ⟨0, rfl, Nat.zero_le _, World.ownsRow_nil _ _ _ _, b1, g1⟩
  case round =>
    clear b1 g1
    obtain ⟨k, rfl, hk, hown, hb, hg⟩ := hrel
    obtain ⟨Av, cv, hv⟩ := Sm.own_shape hown
    subst hv
    have HO := Lib.hid hown
    clear hown
    have x1 := Sm.cells_of hg 1 _ rfl
    by_cases hkl : k < ws.length
    · have hki : (k : Int) < (ws.length : Int) := by omega
      have hsuc : IntKind.i64.wrap ((k : Int) + 1) = ((k + 1 : Nat) : Int) := by simp [IntKind.wrap, IntKind.bits, IntKind.signed]; omega
      obtain ⟨g, rfl, hgl, hc⟩ : ∃ g, Bw = some ⟨g, 0, none⟩ ∧ g < w.heap.size ∧ ∀ i, i < ws.length → w.cell? ⟨g, 2 * i, none⟩ = some (.int .i64 ((ws.getD i (0, [])).1 : Nat)) ∧ w.cell? ⟨g, 2 * i + 1, none⟩ = some (.string ⟨((ws.getD i (0, [])).2).toArray⟩) := by
        obtain ⟨A', c', e, h⟩ := HW.out
        simp only [Value.slice.injEq] at e
        rcases h with h | ⟨g, e1, _, e3, h⟩
        · rw [h] at hkl; simp at hkl
        · exact ⟨g, e.1.trans e1, e3, h⟩
      obtain ⟨c0, c1⟩ := hc k hkl
      have d0 : wr.cell? ⟨g, k * 2, none⟩ = some (.int .i64 ((ws.getD k (0, [])).1 : Nat)) := by rw [Nat.mul_comm]; exact (hb.cell (p := ⟨g, 2 * k, none⟩) (by rw [HN.out]; exact hgl)).trans c0
      have d1 : wr.cell? ⟨g, k * 2 + 1, none⟩ = some (.string ⟨((ws.getD k (0, [])).2).toArray⟩) := by rw [Nat.mul_comm]; exact (hb.cell (p := ⟨g, 2 * k + 1, none⟩) (by rw [HN.out]; exact hgl)).trans c1
      obtain ⟨p, hp⟩ : ∃ p, p = ws.getD k (0, []) := ⟨_, rfl⟩
      rw [← hp] at d0 d1
      have HP := Lib.hid hp
      have E := Lib.hid (Dk.ofL_take hkl i)
      clear c0 c1 hc hp
      by_cases he : i = p.1
      · have hei : (p.1 : Int) = (i : Int) := by omega
        have hbs := hb.size
        have hgl2 := Sm.lt_of hg
        have hle := Dk.ofL_le (ws.take k) i
        have hle2 : (ws.take k).length ≤ k := List.length_take_le _ _
        go_wp2_with (at_builtin; refine wpList_append_own _ rfl _ _ 30 rfl (N + 1) 9 i0 (.string ⟨#[]⟩) 1 16 Tryz.underlying30 hie hz0 hz1 hz2 rfl (by decide) _ _ _ rfl (HO.out.alloc _) ⟨wr.heap.size, 0, none⟩ 1 1 [.string ⟨p.2.toArray⟩] rfl rfl (Dk.new_text _ _) (by intro u hu; simp at hu; subst hu; rfl) (by unfold maxLen; omega) (by omega) (by simp; omega) ?_
                     intro v' w4 hown' hgrow _)
        have hOW : w4.ownsRow (N + 1) 9 1 v' (Dk.ofL (ws.take (k + 1)) i).length ((Dk.ofL (ws.take (k + 1)) i).map Dk.txt) := by
          rw [E.out, ← HP.out, if_pos he, List.length_append, List.map_append]; exact hown'
        have HOW := Lib.hid hOW
        have hge : ∀ q, (Value.slice Av (Dk.ofL (ws.take k) i).length cv).ownBlock = some q → N + 1 ≤ q := fun q hq => (Dk.own_blk HO.out hq).1
        have hgrow2 : (wr.alloc (.cells #[.string ⟨p.2.toArray⟩] 9)).grownBy w4 (Value.slice Av (Dk.ofL (ws.take k) i).length cv).ownBlock := hgrow
        have hb4 : Below N w w4 := (hb.alloc (by omega) _).grown hgrow2 (by simp; omega) (fun q hq => by have := hge q hq; omega)
        have hg4 : w4.heap[N]? = some (.cells #[.slice A n c, .slice (some ⟨g, 0, none⟩) ws.length d, .int .i64 f, .bool off] 33) := by
          rw [hgrow2.block N (by simp; omega) (fun e => by have := hge N e.symm; omega), Below.heap_alloc _ _ _ hgl2]; exact hg
        have HB4 := Lib.hid hb4
        have HG4 := Lib.hid hg4
        clear hown' hgrow hOW hge hb4 hg4
        go_wp2
        go_roundw
        case rel => exact ⟨k + 1, rfl, hkl, HOW.out, HB4.out, HG4.out⟩
        case measure => simp [intOf]; omega
      · have hei : ¬ (p.1 : Int) = (i : Int) := by omega
        have hbe : ((p.1 : Int) == (i : Int)) = false := beq_eq_false_iff_ne.2 hei
        go_wp2
        go_roundw
        case rel => exact ⟨k + 1, rfl, hkl, by rw [E.out, ← HP.out, if_neg he]; exact HO.out, hb, hg⟩
        case measure => simp [intOf]; omega
    · have hki : ¬ (k : Int) < (ws.length : Int) := by omega
      have hke : ws.take k = ws := List.take_of_length_le (by omega)
      have h : wr.ownsRow w.heap.size 9 1 (.slice Av (Dk.ofL (ws.take k) i).length cv) (Dk.ofL ws i).length ((Dk.ofL ws i).map Dk.txt) := by
        have h := Dk.own_more (B := w.heap.size) HO.out (by rw [← HN.out]; omega)
        rw [show Dk.ofL (ws.take k) i = Dk.ofL ws i by rw [hke]] at h ⊢
        exact h
      have HH := Lib.hid h
      clear h hke
      go_wp2
      go_ret
      exact ⟨_, rfl, by rw [HN.out]; exact HH.out, by rw [← HN.out]; exact hb⟩
end Go.Proofs.YtnmagfodjcookaaGreat
