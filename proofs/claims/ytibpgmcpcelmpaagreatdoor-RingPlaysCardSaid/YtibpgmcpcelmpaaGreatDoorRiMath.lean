/-
  What package ring does, as plain data: a master's keys, what is wrapped, how it is opened. No program.
-/
import Derived.Test.YtibpgmcpcelmpaaGreatDoorSeAwake
namespace Go.Proofs.YtibpgmcpcelmpaaGreatDoor.Ri
open Pk

def ringL : List UInt8 := [114, 105, 110, 103]
/-- A number's eight bytes, the highest first. -/
def be8 (v : Nat) : List UInt8 := (List.range 8).map fun i => UInt8.ofNat (v / 2 ^ (56 - 8 * i))
theorem be8_length (v : Nat) : (be8 v).length = 8 := by simp [be8]
def u64 (i : Int) : Nat := (i % 18446744073709551616).toNat
/-- A master's key. -/
def key (M : List UInt8) (i : Int) : List UInt8 := Sm.tag M (ringL ++ be8 (u64 i))
theorem key_length (M : List UInt8) (i : Int) : (key M i).length = 32 := Sm.tag_length _ _
/-- What is wrapped. -/
def wrap (M : List UInt8) (cur : Int) (boot n : Nat) (about t : List UInt8) : List UInt8 × Nat :=
  if t.length ≤ 8192 then (Se.bytes (Se.sealed (key M cur) cur boot n about t), 0) else ([], 3)
/-- How bytes are opened. -/
def opens (M : List UInt8) (cur : Int) (b : ByteArray) (about : List UInt8) : List UInt8 × Nat :=
  if (Se.read b).2 = 0 then (if (Se.read b).1.key ≤ cur then Se.opened (key M (Se.read b).1.key) (Se.read b).1 about else ([], 20)) else ([], (Se.read b).2)
theorem wrap_ok {M : List UInt8} {cur : Int} {boot n : Nat} {about t : List UInt8} (ht : t.length ≤ 8192) : wrap M cur boot n about t = (Se.bytes (Se.sealed (key M cur) cur boot n about t), 0) := by
  unfold wrap; rw [if_pos ht]
theorem wrap_long {M : List UInt8} {cur : Int} {boot n : Nat} {about t : List UInt8} (ht : ¬ t.length ≤ 8192) : wrap M cur boot n about t = ([], 3) := by
  unfold wrap; rw [if_neg ht]
/-- What was wrapped reads as what was sealed. -/
theorem read_wrap {M : List UInt8} {cur : Int} {boot n : Nat} {about t : List UInt8} (hc : 0 ≤ cur ∧ cur ≤ 1048576) (hb : boot < 2 ^ 32) (hn : n < 2 ^ 64) (ht : t.length ≤ 8192) :
    Se.read ⟨(wrap M cur boot n about t).1.toArray⟩ = (Se.sealed (key M cur) cur boot n about t, 0) := by
  rw [wrap_ok ht]
  obtain ⟨h1, h2⟩ := Se.sealed_ok (k := key M cur) (about := about) hc hb hn ht
  exact Se.read_bytes h1 h2
theorem opens_wrap {M : List UInt8} {cur cur' : Int} {boot n : Nat} {about t : List UInt8} (hc : 0 ≤ cur ∧ cur ≤ 1048576) (hb : boot < 2 ^ 32) (hn : n < 2 ^ 64) (ht : t.length ≤ 8192) (hcc : cur ≤ cur') :
    opens M cur' ⟨(wrap M cur boot n about t).1.toArray⟩ about = (t, 0) := by
  unfold opens
  rw [read_wrap hc hb hn ht]
  have hk : (Se.sealed (key M cur) cur boot n about t).key = cur := rfl
  simp only [if_true, hk]
  rw [if_pos hcc]
  exact Se.opened_sealed hc hb hn ht
/-- One that has not come as far refuses. -/
theorem opens_early {M : List UInt8} {cur cur' : Int} {boot n : Nat} {about t : List UInt8} (hc : 0 ≤ cur ∧ cur ≤ 1048576) (hb : boot < 2 ^ 32) (hn : n < 2 ^ 64) (ht : t.length ≤ 8192) (hcc : ¬ cur ≤ cur') :
    opens M cur' ⟨(wrap M cur boot n about t).1.toArray⟩ about = ([], 20) := by
  unfold opens
  rw [read_wrap hc hb hn ht]
  have hk : (Se.sealed (key M cur) cur boot n about t).key = cur := rfl
  simp only [if_true, hk]
  rw [if_neg hcc]
theorem wrap_length {M : List UInt8} {cur : Int} {boot n : Nat} {about t : List UInt8} (hc : 0 ≤ cur ∧ cur ≤ 1048576) (hb : boot < 2 ^ 32) (hn : n < 2 ^ 64) : (wrap M cur boot n about t).1.length ≤ 9000 := by
  by_cases ht : t.length ≤ 8192
  · rw [wrap_ok ht]
    obtain ⟨ok, hr⟩ := Se.sealed_ok (k := key M cur) (about := about) hc hb hn ht
    obtain ⟨en, hen⟩ : ∃ e, e = Se.sealed (key M cur) cur boot n about t := ⟨_, rfl⟩
    rw [← hen] at ok hr ⊢
    have h1 := enc_len (n := en.key.toNat) (by have := ok.key; omega)
    have h2 := enc_len (n := en.boot) (by have := ok.boot; omega)
    have h3 := enc_len (n := en.n) (by have := ok.n; omega)
    have hdl : en.data.data.toList.length = en.data.size := by rw [Array.length_toList]; rfl
    have h5 := hr.2
    have h4 := enc_len (n := en.data.data.toList.length) (by omega)
    have h6 := ok.tag
    simp only [Se.bytes, Se.head, Se.txt, List.length_append]
    omega
  · rw [wrap_long ht]; simp
end Go.Proofs.YtibpgmcpcelmpaaGreatDoor.Ri
