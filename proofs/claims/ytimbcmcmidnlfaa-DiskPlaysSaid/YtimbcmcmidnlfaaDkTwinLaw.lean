/-
  DiskTwin: a twin is the same, and goes its own way.
-/
import Derived.Test.YtimbcmcmidnlfaaDkSame
namespace Go.Proofs.Ytimbcmcmidnlfaa
open Go.RowKit
namespace Dk
theorem actsAt.one {w : World} {b off : Nat} {l : List Ac} (h : actsAt w b off l) {i : Nat} (hi : i < l.length) : actsAt w b (off + i * 7) [l[i]] := fun k hk => by
  have : k = 0 := by simpa using hk
  subst this
  simpa using h i hi
theorem listAt.one {w : World} {A : Option Addr} {l : List Ac} (h : listAt w A l) {k : Nat} (hk : k < l.length) : listAt w (Option.map (fun x => x.add (k * 7)) A) [l[k]] := by
  rcases h with e | ⟨b, o, rfl, hb, h⟩
  · rw [e] at hk; simp at hk
  · exact .inr ⟨b, o + k * 7, by simp [Addr.add], hb, h.one hk⟩
theorem waits_one (M : Md) (a : Ac) : waits (runs M [a]) ≤ waits M + 1 := waits_doAct M a
theorem fair_of {l : List Ac} {g : Bool} (h : g = true ↔ ¬ Fair l) (hg : g = false) : l.length ≤ 200 := by
  have hf : Fair l := Classical.byContradiction fun hf => by have := h.2 hf; rw [hg] at this; cases this
  exact hf.1
theorem Own.setP {B : Nat} {w0 w : World} {r : Nat} {fp : Nat → Prop} {M : Md} (h : Own B w0 w r fp M) {P : Nat} (hp : ¬ fp P) (hB : B ≤ P) (o : Nat) (v : Value) : Own B w0 (w.setCell ⟨P, o, none⟩ v) r fp M := by
  have hT : Turned (fun k => k = P) w (w.setCell ⟨P, o, none⟩ v) := ⟨rfl, rfl, rfl, by simp, fun i _ hi => Below.heap_setCell _ _ _ _ (show i ≠ P from hi)⟩
  exact ⟨h.disk.keep hT (fun k h1 h2 => hp (h2 ▸ h1)), h.high, h.base, h.below.trans ((Below.refl B w).setCell (p := ⟨P, o, none⟩) hB v)⟩
theorem step_new {B : Nat} {w0 w w' : World} {r : Nat} {fp fp' : Nat → Prop} {M' : Md} (s : Step B w0 w w' r fp fp' M') {S : Nat} (h : ∀ k, fp k → S ≤ k) (hS : S ≤ w.heap.size) : ∀ k, fp' k → S ≤ k := fun k hk => by
  rcases s.grown k hk with e | e
  · exact h k e
  · omega
theorem gr_of (l : List Ac) : ∃ g : Bool, (g = true ↔ ¬ Fair l) := by by_cases h : Fair l; exact ⟨false, by simp [h]⟩; exact ⟨true, by simp [h]⟩
end Dk
end Go.Proofs.Ytimbcmcmidnlfaa
