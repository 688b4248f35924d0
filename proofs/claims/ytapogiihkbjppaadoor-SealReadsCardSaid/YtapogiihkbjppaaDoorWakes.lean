/-
  wakes: what is written is read: it answers true and turns nothing of what was there.
-/
import Derived.Test.YtapogiihkbjppaaDoorMPack
namespace Go.Proofs.YtapogiihkbjppaaDoor
open Go.RowKit Pk

theorem Tryd.own : ownKnob Tryd.prog.godebug = none := by kernel_rfl
theorem Tryd.laidOut : laidOutB Tryd.prog = true := by kernel_rfl

theorem Stp.from {w w' : World} {b B : Nat} {r : Rd} (h : Stp w w' b r) (hb : B ≤ b) (hB : B ≤ w.heap.size) : Below B w w' :=
  ⟨h.grown.os, h.grown.tape, h.grown.output, h.grown.size, fun k hk => h.grown.block k (by omega) (fun e => by have := Option.some.inj e; omega)⟩
theorem inAt.below {w w' : World} {b : Nat} {r : Rd} (h : inAt w b r) (k : Below w.heap.size w w') : inAt w' b r := (k.block b h.lt).trans h
theorem inAt.stp {w w' : World} {b b' : Nat} {r r' : Rd} (h : inAt w b r) (k : Stp w w' b' r') (hne : b ≠ b') : inAt w' b r := (k.grown.block b h.lt (fun e => hne (Option.some.inj e))).trans h
theorem chainS {w w1 w2 : World} {B b : Nat} {r : Rd} (k : Below B w w1) (hB : B ≤ w.heap.size) (h : Stp w1 w2 b r) (hb : B ≤ b) : Below B w w2 := k.trans (h.from hb (Nat.le_trans hB k.size))
theorem chainO {w w1 w2 : World} {B : Nat} (k : Below B w w1) (hB : B ≤ w.heap.size) (h : Below w1.heap.size w1 w2) : Below B w w2 := k.trans (h.mono (Nat.le_trans hB k.size))
theorem below_drewN {B : Nat} {w w' : World} (h : Below B w w') (n : Nat) : Below B w (w'.drewN n) := ⟨h.os, h.tape, h.output, h.size, h.block⟩
theorem outAt.drewN {w : World} {B o : Nat} {bs : List UInt8} (h : outAt w B o bs) (n : Nat) : outAt (w.drewN n) B o bs := h

theorem wake_bytes : (([] ++ enc 128) ++ enc (zig (-65))) ++ (enc 2 ++ [97, 98]) = [128, 1, 129, 1, 2, 97, 98] := by
  have h1 : enc 128 = [128, 1] := by rw [enc_big (by decide), enc_small (by decide)]; rfl
  have h2 : zig (-65) = 129 := rfl
  have h3 : enc 129 = [129, 1] := by rw [enc_big (by decide), enc_small (by decide)]; rfl
  have h4 : enc 2 = [2] := by rw [enc_small (by decide)]; rfl
  rw [h1, h2, h3, h4]
  rfl

def wakeS : ByteArray := ⟨#[128, 1, 129, 1, 2, 97, 98]⟩
theorem wake_ok (n : Nat) (h : n ≤ 7) : Rd.Ok ⟨wakeS, n, 0⟩ := ⟨h, Nat.zero_le _, by show wakeS.size ≤ _; decide⟩
theorem wake_num : Rd.num ⟨wakeS, 0, 0⟩ = (128, ⟨wakeS, 2, 0⟩) := rfl
theorem wake_int : Rd.num ⟨wakeS, 2, 0⟩ = (129, ⟨wakeS, 4, 0⟩) := rfl
theorem wake_zag : zag 129 = -65 := rfl
theorem wake_text : Rd.text ⟨wakeS, 4, 0⟩ 2 = ([97, 98], ⟨wakeS, 7, 0⟩) := rfl
theorem wake_fin : Rd.fin ⟨wakeS, 7, 0⟩ = 0 := rfl

end Go.Proofs.YtapogiihkbjppaaDoor
