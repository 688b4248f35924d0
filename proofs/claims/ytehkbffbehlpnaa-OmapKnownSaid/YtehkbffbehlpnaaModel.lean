/-
  A reader of package pack as plain data: its text, how far it has come, its first failure; and what each call reads. No program.
-/
import Derived.Test.YtehkbffbehlpnaaMath
namespace Go.Proofs.Ytehkbffbehlpnaa.Pk

structure Rd where
  s : ByteArray
  pos : Nat
  f : Nat

/-- What was not read. -/
def Rd.rest (r : Rd) : List UInt8 := r.s.data.toList.drop r.pos
/-- So many bytes are read, or it fails with e. -/
def Rd.go (r : Rd) (sz e : Nat) : Rd := if r.f = 0 then (if e = 0 then { r with pos := r.pos + sz } else { r with f := e }) else r
def Rd.pass (r : Rd) (e : Nat) : Bool := r.f == 0 && e == 0

/-- A number that is at most m. -/
def cnt (l : List UInt8) (m : Int) : Nat × Nat × Nat := if (dec 0 0 l).2.2 = 0 ∧ (m < 0 ∨ m < ((dec 0 0 l).1 : Int)) then (0, 0, 8) else dec 0 0 l

def Rd.num (r : Rd) : Nat × Rd := (if r.pass (dec 0 0 r.rest).2.2 then (dec 0 0 r.rest).1 else 0, r.go (dec 0 0 r.rest).2.1 (dec 0 0 r.rest).2.2)
def Rd.most (r : Rd) (m : Int) : Nat × Rd := (if r.pass (cnt r.rest m).2.2 then (cnt r.rest m).1 else 0, r.go (cnt r.rest m).2.1 (cnt r.rest m).2.2)
/-- An integer out of its number. -/
def zag (n : Nat) : Int := if n % 2 = 0 then (n / 2 : Nat) else -((n / 2 : Nat) : Int) - 1
def terr (l : List UInt8) (m : Int) : Nat := if (cnt l m).2.2 = 0 ∧ l.length - (cnt l m).2.1 < (cnt l m).1 then 7 else (cnt l m).2.2
def Rd.text (r : Rd) (m : Int) : List UInt8 × Rd :=
  (if r.pass (terr r.rest m) then (r.rest.drop (cnt r.rest m).2.1).take (cnt r.rest m).1 else [], r.go ((cnt r.rest m).2.1 + (cnt r.rest m).1) (terr r.rest m))
def Rd.byte (r : Rd) : Nat × Rd := (if r.pass (if r.rest = [] then 7 else 0) then (r.rest.headD 0).toNat else 0, r.go 1 (if r.rest = [] then 7 else 0))
def Rd.fault (r : Rd) : Nat × Nat := if r.f = 0 then (0, 0) else (r.f, r.pos)
def Rd.fin (r : Rd) : Nat := if r.f ≠ 0 then r.f else if r.rest = [] then 0 else 8

/-- A reader as the calls leave it. -/
structure Rd.Ok (r : Rd) : Prop where
  pos : r.pos ≤ r.s.size
  f : r.f ≤ 8
  lim : r.s.size ≤ 281474976710656

theorem Rd.rest_length (r : Rd) : r.rest.length = r.s.size - r.pos := by simp [Rd.rest]

theorem Rd.Ok.go {r : Rd} (h : r.Ok) {sz e : Nat} (he : e ≤ 8) (hs : e = 0 → sz ≤ r.rest.length) : (r.go sz e).Ok := by
  have h1 := r.rest_length
  have h2 := h.pos
  unfold Rd.go
  by_cases hf : r.f = 0
  · rw [if_pos hf]
    by_cases h0 : e = 0
    · rw [if_pos h0]
      have := hs h0
      exact ⟨by show r.pos + sz ≤ r.s.size; omega, h.f, h.lim⟩
    · rw [if_neg h0]; exact ⟨h.pos, he, h.lim⟩
  · rw [if_neg hf]; exact h

theorem cnt_bd (l : List UInt8) (m : Int) : (cnt l m).1 < 2 ^ 64 ∧ (cnt l m).2.1 ≤ 10 ∧ (cnt l m).2.1 ≤ l.length ∧ (cnt l m).2.2 ≤ 8 := by
  unfold cnt
  split
  · simp
  · exact dec_bd l

theorem Rd.Ok.num {r : Rd} (h : r.Ok) : r.num.2.Ok := h.go (dec_bd r.rest).2.2.2 fun _ => (dec_bd r.rest).2.2.1
theorem Rd.Ok.most {r : Rd} (h : r.Ok) (m : Int) : (r.most m).2.Ok := h.go (cnt_bd r.rest m).2.2.2 fun _ => (cnt_bd r.rest m).2.2.1
theorem Rd.Ok.byte {r : Rd} (h : r.Ok) : r.byte.2.Ok := h.go (by split <;> omega) fun h0 => by
  by_cases h1 : r.rest = []
  · rw [if_pos h1] at h0; omega
  · have := List.length_pos_iff.2 h1; omega
theorem terr_bd (l : List UInt8) (m : Int) : terr l m ≤ 8 := by
  unfold terr
  split
  · omega
  · exact (cnt_bd l m).2.2.2
theorem terr_room {l : List UInt8} {m : Int} (h : terr l m = 0) : (cnt l m).2.1 + (cnt l m).1 ≤ l.length ∧ (cnt l m).2.2 = 0 := by
  have hb := (cnt_bd l m).2.2.1
  unfold terr at h
  split at h
  · omega
  · rename_i hn
    exact ⟨by omega, h⟩
theorem Rd.Ok.text {r : Rd} (h : r.Ok) (m : Int) : (r.text m).2.Ok := h.go (terr_bd r.rest m) fun h0 => (terr_room h0).1

theorem pass_true {r : Rd} {e : Nat} (h1 : r.f = 0) (h2 : e = 0) : r.pass e = true := by simp [Rd.pass, h1, h2]
theorem pass_false {r : Rd} {e : Nat} (h : r.f ≠ 0 ∨ e ≠ 0) : r.pass e = false := by simp [Rd.pass]; intro h1; omega
theorem go_ok {r : Rd} {sz : Nat} (h : r.f = 0) : r.go sz 0 = { r with pos := r.pos + sz } := by unfold Rd.go; rw [if_pos h, if_pos rfl]
theorem go_bad {r : Rd} {sz e : Nat} (h : r.f ≠ 0 ∨ e ≠ 0) (k : Nat) : r.go sz e = r.go k e := by
  unfold Rd.go
  by_cases hf : r.f = 0
  · rw [if_pos hf, if_pos hf, if_neg (by omega), if_neg (by omega)]
  · rw [if_neg hf, if_neg hf]

end Go.Proofs.Ytehkbffbehlpnaa.Pk
