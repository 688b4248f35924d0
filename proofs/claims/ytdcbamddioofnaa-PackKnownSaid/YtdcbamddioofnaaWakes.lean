/-
  wakes: what is written is read: it answers true and turns nothing of what was there.
-/
import Derived.Test.YtdcbamddioofnaaOut2
import Derived.Test.YtdcbamddioofnaaIn4
namespace Go.Proofs.Ytdcbamddioofnaa
open Go.RowKit Pk

theorem Try.own : ownKnob Try.prog.godebug = none := by kernel_rfl
theorem Try.laidOut : laidOutB Try.prog = true := by kernel_rfl

theorem Stp.from {w w' : World} {b B : Nat} {r : Rd} (h : Stp w w' b r) (hb : B ≤ b) (hB : B ≤ w.heap.size) : Below B w w' :=
  ⟨h.grown.os, h.grown.tape, h.grown.output, h.grown.size, fun k hk => h.grown.block k (by omega) (fun e => by have := Option.some.inj e; omega)⟩
theorem inAt.below {w w' : World} {b : Nat} {r : Rd} (h : inAt w b r) (k : Below w.heap.size w w') : inAt w' b r := (k.block b h.lt).trans h
theorem inAt.stp {w w' : World} {b b' : Nat} {r r' : Rd} (h : inAt w b r) (k : Stp w w' b' r') (hne : b ≠ b') : inAt w' b r := (k.grown.block b h.lt (fun e => hne (Option.some.inj e))).trans h
theorem chainS {w w1 w2 : World} {B b : Nat} {r : Rd} (k : Below B w w1) (hB : B ≤ w.heap.size) (h : Stp w1 w2 b r) (hb : B ≤ b) : Below B w w2 := k.trans (h.from hb (Nat.le_trans hB k.size))
theorem chainO {w w1 w2 : World} {B : Nat} (k : Below B w w1) (hB : B ≤ w.heap.size) (h : Below w1.heap.size w1 w2) : Below B w w2 := k.trans (h.mono (Nat.le_trans hB k.size))
theorem below_drewN {B : Nat} {w w' : World} (h : Below B w w') (n : Nat) : Below B w (w'.drewN n) := ⟨h.os, h.tape, h.output, h.size, h.block⟩
theorem outAt.drewN {w : World} {B o : Nat} {bs : List UInt8} (h : outAt w B o bs) (n : Nat) : outAt (w.drewN n) B o bs := h

theorem wake_bytes : (([] ++ enc 128) ++ enc (zig (-65))) ++ (enc 2 ++ [97, 98]) = [128, 1, 129, 1, 2, 97, 98] := by
  have h1 : enc 128 = [128, 1] := by rw [enc_big (by decide), enc_small (by decide)]; rfl
  have h2 : zig (-65) = 129 := rfl
  have h3 : enc 129 = [129, 1] := by rw [enc_big (by decide), enc_small (by decide)]; rfl
  have h4 : enc 2 = [2] := by rw [enc_small (by decide)]; rfl
  rw [h1, h2, h3, h4]
  rfl

def wakeS : ByteArray := ⟨#[128, 1, 129, 1, 2, 97, 98]⟩
theorem wake_ok (n : Nat) (h : n ≤ 7) : Rd.Ok ⟨wakeS, n, 0⟩ := ⟨h, Nat.zero_le _, by show wakeS.size ≤ _; decide⟩
theorem wake_num : Rd.num ⟨wakeS, 0, 0⟩ = (128, ⟨wakeS, 2, 0⟩) := rfl
theorem wake_int : Rd.num ⟨wakeS, 2, 0⟩ = (129, ⟨wakeS, 4, 0⟩) := rfl
theorem wake_zag : zag 129 = -65 := rfl
theorem wake_text : Rd.text ⟨wakeS, 4, 0⟩ 2 = ([97, 98], ⟨wakeS, 7, 0⟩) := rfl
theorem wake_fin : Rd.fin ⟨wakeS, 7, 0⟩ = 0 := rfl

set_option maxHeartbeats 1000000 in
theorem wakes_any (w : World) : Calls Try.prog 16 #[] w fun e w' => e = .returned (.bool true) ∧ Below w.heap.size w w' := by
  have t1 := wake_num
  have t2 := wake_int
  have t3 := wake_text
  have T1 := Lib.hid t1
  have T2 := Lib.hid t2
  have T3 := Lib.hid t3
  clear t1 t2 t3
  go_enter Try.func16, Try.ntmps16
  go_wp2_with fail
  have hb0 : Below w.heap.size w (w.alloc (.cells #[.pointer none, .int .i64 0] 29)) := (Below.refl _ w).alloc (Nat.le_refl _) _
  have ho0 : outAt (w.alloc (.cells #[.pointer none, .int .i64 0] 29)) w.heap.size w.heap.size [] := ⟨Nat.le_refl _, .inl ⟨heap_alloc_new w _, rfl⟩⟩
  refine (oNum_any 128 (by decide) ho0 hb0.size (by decide)).mono ?_
  rintro e w1 ⟨rfl, ho1, hb1⟩
  go_wp2_with fail
  refine (oInt_any (-65) (by decide) ho1 (Nat.le_trans hb0.size hb1.size) (by rw [List.nil_append]; have := enc_len (n := 128) (by decide); omega)).mono ?_
  rintro e w2 ⟨rfl, ho2, hb2⟩
  go_wp2_with fail
  refine (oText_any ⟨#[97, 98]⟩ ho2 (Nat.le_trans (Nat.le_trans hb0.size hb1.size) hb2.size) (by rw [List.nil_append, List.length_append]; have := enc_len (n := 128) (by decide); have := enc_len (n := zig (-65)) (by decide); show _ + 10 + 2 ≤ _; omega)).mono ?_
  rintro e w3 ⟨rfl, ho3, hb3⟩
  have ho4 : outAt w3 w.heap.size w.heap.size [128, 1, 129, 1, 2, 97, 98] := by
    have := ho3
    rw [show (ByteArray.mk #[97, 98]).size = 2 from rfl, show (ByteArray.mk #[97, 98]).data.toList = [97, 98] from rfl, wake_bytes] at this
    exact this
  have hbw := ((hb0.trans hb1).trans hb2).trans hb3
  clear ho0 ho1 ho2 ho3 hb0 hb1 hb2 hb3
  go_wp2_with fail
  refine (oString_any ho4 (by decide)).mono ?_
  rintro e w4 ⟨rfl, n1, rfl⟩
  go_wp2_with fail
  refine (of_any wakeS _ (by decide)).mono ?_
  rintro e w5 ⟨b, hb, rfl, hin, hbe⟩
  go_wp2_with fail
  have hN := num_in hin (wake_ok 0 (by decide))
  rw [T1.out] at hN
  refine hN.mono ?_
  rintro e w6 ⟨rfl, hs6⟩
  clear hN
  go_wp2_with fail
  have hN := int_in hs6.inAt (wake_ok 2 (by decide))
  rw [T2.out, show zag (129, (⟨wakeS, 4, 0⟩ : Rd)).1 = -65 from rfl] at hN
  refine hN.mono ?_
  rintro e w7 ⟨rfl, hs7⟩
  clear hN
  go_wp2_with fail
  have hN := text_in hs7.inAt (wake_ok 4 (by decide)) 2 (by decide)
  rw [T3.out] at hN
  refine hN.mono ?_
  rintro e w8 ⟨rfl, hs8⟩
  clear hN
  go_wp2_with fail
  have k0 : Below w3.heap.size w3 w5 := (below_drewN (Below.refl _ w3) n1).trans hbe
  have k1 : Below w3.heap.size w3 w6 := k0.trans (hs6.from hb k0.size)
  have k2 : Below w3.heap.size w3 w7 := k1.trans (hs7.from hb k1.size)
  have k3 : Below w3.heap.size w3 w8 := k2.trans (hs8.from hb k2.size)
  refine (oString_any (ho4.kept k3) (by decide)).mono ?_
  rintro e w9 ⟨rfl, n2, rfl⟩
  go_wp2_with fail
  have hN := fin_in (hs8.inAt.drewN n2) (wake_ok 7 (by decide))
  rw [wake_fin] at hN
  refine hN.mono ?_
  rintro e w10 ⟨rfl, n3, rfl⟩
  clear hN
  go_wp2
  go_ret
  exact ⟨rfl, hbw.trans (below_drewN (k3.mono hbw.size) (n2 + n3))⟩
end Go.Proofs.Ytdcbamddioofnaa
