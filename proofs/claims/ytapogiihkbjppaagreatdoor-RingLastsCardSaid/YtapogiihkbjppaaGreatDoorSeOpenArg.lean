/-
  An envelope as an argument, opened; rows of six arguments.
-/
import Derived.Test.YtapogiihkbjppaaGreatDoorSeEq
import Derived.Test.YtapogiihkbjppaaGreatDoorMBase
import Derived.ProofKit
namespace Go.Proofs.YtapogiihkbjppaaGreatDoor
open Go.ChangeMaps (open_string shut_string)
open Go.ChangeShapes Go.WideShapes Go.ChangeAt Go.RowKit
namespace Se
set_option maxRecDepth 100000 in
theorem cell_of_bytes {H : Type} {enc : TypeId × Value → H} {W : World} {base : Nat} {sp : Nat → Bool} {held : Bool} {fuel : Nat} {cs : List Value} {x : DataW H × List MemPlace} (hl : cs.length = 32)
    (h : DataW.trod enc Tryz.prog W base sp held fuel 72 cs = some x) : ∃ l : List UInt8, l.length = 32 ∧ cs = Lib.byteCells l := by
  have ht : Tryz.prog.underlying 72 = some (.array 32 5) := Tryz.underlying72
  have hc1 : Tryz.prog.cellsOf 5 = 1 := by kernel_rfl
  obtain ⟨xs, m, _, _, _, hxl, hx⟩ := DataW.trod_array ht h
  refine ⟨cs.map Sm.byteOf, by simp [hl], ?_⟩
  rw [Lib.byteCells, List.map_map]
  apply List.ext_getElem (by simp)
  intro i h1 h2
  have h3 := hx i (by omega)
  rw [hc1, Nat.mul_one, List.getElem?_eq_getElem (by omega)] at h3
  have e : (cs.drop i).take 1 = [cs[i]] := by
    rw [List.drop_eq_getElem_cons h1]; rfl
  rw [e] at h3
  obtain ⟨k, hk, _, hw⟩ := DataW.trod_int Tryz.underlying5 h3
  have hk1 : cs[i] = .int .u8 k := by simpa using hk
  have hb := Sm.byteOf_back hw
  rw [← hk1] at hb
  simpa using hb

set_option maxRecDepth 100000 in
/-- An envelope, opened. -/
theorem open_env {H : Type} {enc : TypeId × Value → H} {W : World} {sp : Nat → Bool} {held : Bool} {b0 : Nat} {r : Reach} {v : Value} {d : DataW H} {ps : List MemPlace}
    (hval : Value.okWide Tryz.prog W r b0 74 v) (h : DataW.Trod enc Tryz.prog W 0 sp held 74 v d ps) : ∃ x : Env, x.Ok ∧ v = .agg x.cells.toArray := by
  have hv : ∃ cs : Array Value, v = .agg cs ∧ cs.size = 36 := by
    unfold Value.okWide at hval
    rw [env_und] at hval
    obtain ⟨cs, h1, h2, _⟩ := hval
    exact ⟨cs, h1, by rw [h2]; kernel_rfl⟩
  obtain ⟨cs, rfl, hcs⟩ := hv
  obtain ⟨fuel, hf⟩ := h
  obtain ⟨ys, n, _, _, hlen, hyl, hx⟩ := DataW.trod_struct env_und hf
  have hc := env_check
  split at hc
  · rename_i a b c e g hl
    simp only [decide_eq_true_eq] at hc
    obtain ⟨-, ⟨t0, t1, t2, t3, t4⟩, o0, o1, o2, o3, o4⟩ := hc
    have hfs : (Tryz.prog.fieldsOf 74).size = 5 := by rw [← Array.length_toList, hl]; rfl
    have get : ∀ (j : Nat) (f : Field), [a, b, c, e, g][j]? = some f → ∃ y, DataW.trod enc Tryz.prog W 0 sp held n f.type ((cs.toList.drop f.offset).take (Tryz.prog.cellsOf f.type)) = some y := fun j f hj => by
      have h1 := hx j f (by rw [← Array.getElem?_toList, hl]; exact hj)
      have hlt := (List.getElem?_eq_some_iff.1 hj).1
      have h2 : (Value.agg cs).cells = cs := rfl
      rw [h2, List.getElem?_eq_getElem (by rw [hyl, hfs]; exact hlt)] at h1
      exact ⟨_, h1⟩
    have k0 : Tryz.prog.cellsOf 3 = 1 := by kernel_rfl
    have k1 : Tryz.prog.cellsOf 26 = 1 := by kernel_rfl
    have k2 : Tryz.prog.cellsOf 30 = 1 := by kernel_rfl
    have k3 : Tryz.prog.cellsOf 9 = 1 := by kernel_rfl
    have k4 : Tryz.prog.cellsOf 72 = 32 := by kernel_rfl
    obtain ⟨y0, g0⟩ := get 0 a rfl
    obtain ⟨y1, g1⟩ := get 1 b rfl
    obtain ⟨y2, g2⟩ := get 2 c rfl
    obtain ⟨y3, g3⟩ := get 3 e rfl
    obtain ⟨y4, g4⟩ := get 4 g rfl
    rw [t0, o0, k0] at g0
    rw [t1, o1, k1] at g1
    rw [t2, o2, k2] at g2
    rw [t3, o3, k3] at g3
    rw [t4, o4, k4] at g4
    obtain ⟨n0, e0, -, r0⟩ := DataW.trod_int Tryz.underlying3 g0
    obtain ⟨n1, e1, -, r1⟩ := DataW.trod_int Tryz.underlying26 g1
    obtain ⟨n2, e2, -, r2⟩ := DataW.trod_int Tryz.underlying30 g2
    obtain ⟨n3, e3, -, r3⟩ := DataW.trod_string Tryz.underlying9 g3
    obtain ⟨l, hl32, e4⟩ := cell_of_bytes (by rw [List.length_take, List.length_drop, Array.length_toList]; omega) g4
    have q0 : -9223372036854775808 ≤ n0 ∧ n0 ≤ 9223372036854775807 := by simpa [Lit.wf, IntKind.min, IntKind.max, IntKind.signed, IntKind.bits] using r0
    have q1 : 0 ≤ n1 ∧ n1 ≤ 4294967295 := by simpa [Lit.wf, IntKind.min, IntKind.max, IntKind.signed, IntKind.bits] using r1
    have q2 : 0 ≤ n2 ∧ n2 ≤ 18446744073709551615 := by simpa [Lit.wf, IntKind.min, IntKind.max, IntKind.signed, IntKind.bits] using r2
    refine ⟨⟨n0, n1.toNat, n2.toNat, n3, l⟩, ⟨q0, by show n1.toNat < 2 ^ 32; omega, by show n2.toNat < 2 ^ 64; omega, ?_, hl32⟩, ?_⟩
    · unfold maxLen at r3
      show n3.size ≤ _
      omega
    · congr 1
      apply Array.ext'
      have hL : cs.toList.length = 36 := by rw [Array.length_toList, hcs]
      generalize cs.toList = L at *
      show L = [Value.int .i64 n0, .int .u32 (n1.toNat : Int), .int .u64 (n2.toNat : Int), .string n3] ++ Lib.byteCells l
      rw [Int.toNat_of_nonneg q1.1, Int.toNat_of_nonneg q2.1]
      match L, hL with
      | c0 :: c1 :: c2 :: c3 :: rest, hL =>
        simp at e0 e1 e2 e3 e4
        have hr : rest.length = 32 := by simp at hL; exact hL
        rw [List.take_of_length_le (by omega)] at e4
        rw [e0, e1, e2, e3, e4]
        rfl
  · exact absurd hc (by decide)
section
variable {H : Type} {enc : TypeId × Value → H} {P : Program} {w : World} {base : Nat} {spare : Nat → Bool} {held : Bool}
theorem trodAll_six {t t' t'' t3 t4 t5 : TypeId} {args : Array Value} {ds : List (DataW H)} {ps : List MemPlace} (h : DataW.TrodAll enc P w base spare held [t, t', t'', t3, t4, t5] args.toList ds ps) :
    ∃ v v' v'' v3 v4 v5 d d' d'' d3 d4 d5 p p' p'' p3 p4 p5, args = #[v, v', v'', v3, v4, v5] ∧ ds = [d, d', d'', d3, d4, d5] ∧ ps = p ++ p' ++ p'' ++ p3 ++ p4 ++ p5 ∧ DataW.Trod enc P w base spare held t v d p ∧ DataW.Trod enc P w base spare held t' v' d' p' ∧ DataW.Trod enc P w base spare held t'' v'' d'' p'' ∧ DataW.Trod enc P w base spare held t3 v3 d3 p3 ∧ DataW.Trod enc P w base spare held t4 v4 d4 p4 ∧ DataW.Trod enc P w base spare held t5 v5 d5 p5 := by
  obtain ⟨v, vs, d, ds', p, q, hargs, rfl, rfl, hd, hrest⟩ := trodAll_cons h
  obtain ⟨v', vs', d', ds2, p', q', rfl, rfl, rfl, hd', hrest'⟩ := trodAll_cons hrest
  obtain ⟨v'', vs'', d'', dsx, p'', q'', rfl, rfl, rfl, hd'', hrest''⟩ := trodAll_cons hrest'
  obtain ⟨v3, vs3, d3, ds3, p3, q3, rfl, rfl, rfl, hd3, hrest3⟩ := trodAll_cons hrest''
  obtain ⟨v4, vs4, d4, ds4, p4, q4, rfl, rfl, rfl, hd4, hrest4⟩ := trodAll_cons hrest3
  obtain ⟨v5, vs5, d5, ds5, p5, q5, rfl, rfl, rfl, hd5, hrest5⟩ := trodAll_cons hrest4
  obtain ⟨rfl, rfl, rfl⟩ := trodAll_nil hrest5
  exact ⟨v, v', v'', v3, v4, v5, d, d', d'', d3, d4, d5, p, p', p'', p3, p4, p5, by cases args; simp_all, rfl, by simp, hd, hd', hd'', hd3, hd4, hd5⟩
theorem trodAll_mk6 {t t' t'' t3 t4 t5 : TypeId} {v v' v'' v3 v4 v5 : Value} {d d' d'' d3 d4 d5 : DataW H} {p p' p'' p3 p4 p5 : List MemPlace} (h : DataW.Trod enc P w base spare held t v d p) (h' : DataW.Trod enc P w base spare held t' v' d' p')
    (h'' : DataW.Trod enc P w base spare held t'' v'' d'' p'') (h3 : DataW.Trod enc P w base spare held t3 v3 d3 p3) (h4 : DataW.Trod enc P w base spare held t4 v4 d4 p4) (h5 : DataW.Trod enc P w base spare held t5 v5 d5 p5) :
    DataW.TrodAll enc P w base spare held [t, t', t'', t3, t4, t5] [v, v', v'', v3, v4, v5] [d, d', d'', d3, d4, d5] (p ++ (p' ++ (p'' ++ (p3 ++ (p4 ++ p5))))) := ⟨p, p' ++ (p'' ++ (p3 ++ (p4 ++ p5))), h, Sm.trodAll_mk5 h' h'' h3 h4 h5, rfl⟩
end
end Se
end Go.Proofs.YtapogiihkbjppaaGreatDoor
