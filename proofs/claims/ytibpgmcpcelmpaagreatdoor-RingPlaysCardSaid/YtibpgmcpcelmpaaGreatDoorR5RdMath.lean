/-
  How bytes are read, said by what is left behind four fields. No program.
-/
import Derived.Test.YtibpgmcpcelmpaaGreatDoorSeMath
namespace Go.Proofs.YtibpgmcpcelmpaaGreatDoor.Se
open Pk
theorem go_s (r : Rd) (a e : Nat) : (r.go a e).s = r.s := by
  unfold Rd.go
  split
  · split <;> rfl
  · rfl
theorem rd4_s (b : ByteArray) : (rd4 b).2.s = b := by
  show (Rd.go _ _ _).s = b
  rw [go_s]
  show (Rd.go _ _ _).s = b
  rw [go_s]
  show (Rd.go _ _ _).s = b
  rw [go_s]
  show (Rd.go _ _ _).s = b
  rw [go_s]
theorem byte_stuck {r : Rd} (h : r.f ≠ 0) : r.byte.2 = r := by
  unfold Rd.byte Rd.go
  dsimp only
  rw [if_neg h]
theorem byteN_stuck {r : Rd} (h : r.f ≠ 0) : ∀ k, (byteN k r).2 = r
  | 0 => rfl
  | k + 1 => by
    show (byteN k r).2.byte.2 = r
    rw [byteN_stuck h k]
    exact byte_stuck h
theorem byteN_on2 (r : Rd) (k m : Nat) (h : (byteN k r).2.f ≠ 0) : (byteN (k + m) r).2 = (byteN k r).2 := by
  induction m with
  | zero => rfl
  | succ m ih =>
    show (byteN (k + m) r).2.byte.2 = _
    rw [ih]
    exact byte_stuck h
theorem read_bad {b : ByteArray} (h : (rd4 b).2.f ≠ 0) : read b = (zero, (rd4 b).2.f) := by
  have e : fault b = (rd4 b).2.f := by
    unfold fault rd5
    rw [byteN_stuck h]
    unfold Rd.fin
    rw [if_pos h]
  unfold read
  rw [e, if_neg h]
theorem read_short {b : ByteArray} (h : (rd4 b).2.f = 0) (hl : (rd4 b).2.rest.length < 32) : read b = (zero, 7) := by
  have e : fault b = 7 := by
    unfold fault rd5
    obtain ⟨L, hL⟩ : ∃ L, L = (rd4 b).2.rest.length := ⟨_, rfl⟩
    rw [← hL] at hl
    have h1 := byteN_back L (rd4 b).2 (rd4 b).2.rest [] hL.symm h (by simp)
    have hr : Rd.rest ⟨(rd4 b).2.s, (rd4 b).2.pos + L, 0⟩ = [] := by rw [rest_go, hL]; exact List.drop_length
    have h2 : (byteN (L + 1) (rd4 b).2).2.f = 7 := by
      show (byteN L (rd4 b).2).2.byte.2.f = 7
      rw [h1]
      unfold Rd.byte Rd.go
      dsimp only
      rw [if_pos rfl, if_pos hr, if_neg (by decide)]
    have h3 := byteN_on2 (rd4 b).2 (L + 1) (32 - (L + 1)) (by rw [h2]; decide)
    rw [show L + 1 + (32 - (L + 1)) = 32 by omega] at h3
    unfold Rd.fin
    rw [h3, h2]
    rfl
  unfold read
  rw [e, if_neg (by decide)]
theorem read_long {b : ByteArray} (h : (rd4 b).2.f = 0) (hl : 32 < (rd4 b).2.rest.length) : read b = (zero, 8) := by
  have e : fault b = 8 := by
    unfold fault rd5
    have h1 := byteN_back 32 (rd4 b).2 ((rd4 b).2.rest.take 32) ((rd4 b).2.rest.drop 32) (by rw [List.length_take]; omega) h (by rw [List.take_append_drop])
    have hr : Rd.rest ⟨(rd4 b).2.s, (rd4 b).2.pos + 32, 0⟩ ≠ [] := by
      rw [rest_go]
      intro q
      have := congrArg List.length q
      rw [List.length_drop] at this
      simp at this
      omega
    rw [h1]
    unfold Rd.fin
    rw [if_neg (by simp), if_neg hr]
  unfold read
  rw [e, if_neg (by decide)]
theorem read_right {b : ByteArray} (h : (rd4 b).2.f = 0) (hl : (rd4 b).2.rest.length = 32) : read b = (⟨(rd1 b).1, (rd2 b).1, (rd3 b).1, ⟨(rd4 b).1.toArray⟩, (rd4 b).2.rest⟩, 0) := by
  have h1 := byteN_back 32 (rd4 b).2 (rd4 b).2.rest [] hl h (by simp)
  have hr : Rd.rest ⟨(rd4 b).2.s, (rd4 b).2.pos + 32, 0⟩ = [] := by rw [rest_go, ← hl]; exact List.drop_length
  have e : fault b = 0 := by
    unfold fault rd5
    rw [h1]
    unfold Rd.fin
    rw [if_neg (by simp), if_pos hr]
  unfold read
  rw [e, if_pos rfl]
  unfold got rd5
  rw [h1]
/-- An envelope whose tag's first bytes are these. -/
def held (x : Env) (l : List UInt8) : Env := { x with tag := l ++ List.replicate (32 - l.length) 0 }
theorem held_set (x : Env) (l : List UInt8) (c : UInt8) (h : l.length < 32) : (held x l).cells.toArray.setIfInBounds (4 + l.length) (.int .u8 (c.toNat : Int)) = (held x (l ++ [c])).cells.toArray := by
  apply Array.ext'
  rw [Array.toList_setIfInBounds]
  show ([.int .i64 x.key, .int .u32 x.boot, .int .u64 x.n, .string x.data] ++ Lib.byteCells (l ++ List.replicate (32 - l.length) 0) : List Value).set (4 + l.length) _ = [.int .i64 x.key, .int .u32 x.boot, .int .u64 x.n, .string x.data] ++ Lib.byteCells (l ++ [c] ++ List.replicate (32 - (l ++ [c]).length) 0)
  rw [List.set_append_right _ _ (by simp)]
  congr 1
  simp only [Lib.byteCells, List.map_append, List.length_cons, List.length_nil, List.length_append]
  rw [show 4 + l.length - (0 + 1 + 1 + 1 + 1) = l.length by omega, show 32 - l.length = (32 - (l.length + (0 + 1))) + 1 by omega, List.replicate_succ, List.map_cons, List.set_append_right _ _ (by simp)]
  simp
theorem held_length (x : Env) (l : List UInt8) (h : l.length ≤ 32) : (held x l).tag.length = 32 := by
  show (l ++ List.replicate (32 - l.length) 0).length = 32
  simp; omega
theorem held_full (x : Env) (l : List UInt8) (h : l.length = 32) : held x l = { x with tag := l } := by
  unfold held
  rw [h]; simp
end Go.Proofs.YtibpgmcpcelmpaaGreatDoor.Se
