/-
  A drawn region by an invariant over what has come up.
-/
import Derived.Test.YtlndggbidmmodaaMem
import Derived.Orders
namespace Go.Proofs.Ytlndggbidmmodaa
namespace Ba
theorem filter_le {p q : Nat → Bool} : ∀ l : List Nat, (∀ x, q x = true → p x = true) → (l.filter q).length ≤ (l.filter p).length
  | [], _ => Nat.le_refl _
  | x :: l, h => by
    have ih := filter_le l h
    rw [List.filter_cons, List.filter_cons]
    cases hq : q x
    · cases hp : p x <;> simp <;> omega
    · rw [h x hq]; simp; omega
theorem filter_lt {p q : Nat → Bool} {i : Nat} (h : ∀ x, q x = true → p x = true) (hp : p i = true) (hq : q i = false) : ∀ l : List Nat, i ∈ l → (l.filter q).length < (l.filter p).length
  | [], hi => by simp at hi
  | x :: l, hi => by
    have le := filter_le l h
    rw [List.filter_cons, List.filter_cons]
    rcases List.mem_cons.1 hi with rfl | hi
    · rw [hp, hq]; simp; omega
    · have ih := filter_lt h hp hq l hi
      cases hqx : q x
      · cases hpx : p x <;> simp <;> omega
      · rw [h x hqx]; simp; omega
def still (n : Nat) (listed : Array Bool) : Nat := ((List.range n).filter fun j => !listed.getD j true).length
section
variable {P : Program} {ops : Array Oper} {Q : Exit → Act → World → Prop} {md : Region.Mode}
theorem all_listed (hback : ∀ (j : Nat) (o : Oper), ops[j]? = some o → ∀ e ∈ o.after, e.on < j) {listed : Array Bool} (hs : listed.size = ops.size) (hr : Region.ready md ops listed = []) : ∀ n j, j < n → j < ops.size → listed.getD j true = true := by
  intro n
  induction n with
  | zero => intro j hj; omega
  | succ n ih =>
    intro j hj hjs
    cases hl : listed.getD j true with
    | true => rfl
    | false =>
      have hm : j ∈ Region.ready md ops listed := by
        rw [mem_ready]
        refine ⟨hl, ops[j], Array.getElem?_eq_getElem hjs, fun e he _ => ?_⟩
        have hlt := hback j _ (Array.getElem?_eq_getElem hjs) e he
        have := ih e.on (by omega) (by omega)
        have hes : e.on < listed.size := by omega
        simpa [hes] using this
      rw [hr] at hm
      cases hm
theorem wpAny_inv (hback : ∀ (j : Nat) (o : Oper), ops[j]? = some o → ∀ e ∈ o.after, e.on < j) (I : Array Bool → Act → World → Prop)
    (hstep : ∀ (listed : Array Bool) (a : Act) (w : World) (i : Nat) (o : Oper), I listed a w → i < listed.size → listed.getD i false = false → ops[i]? = some o → (∀ e ∈ o.after, Region.binds md e = true → listed.getD e.on false = true) → wpOp P ops Q i (I (listed.setIfInBounds i true)) a w)
    (hend : ∀ listed a w, I listed a w → (∀ j, j < ops.size → listed.getD j false = true) → Q .normal a w) :
    ∀ fuel listed a w, listed.size = ops.size → still ops.size listed ≤ fuel → I listed a w → wpAny P md ops Q fuel listed a w := by
  have fin : ∀ listed a w, listed.size = ops.size → Region.ready md ops listed = [] → I listed a w → Q .normal a w := fun listed a w hs hr hI => hend _ _ _ hI fun j hj => by
    have := all_listed hback hs hr (j + 1) j (by omega) hj
    have hjl : j < listed.size := by omega
    simpa [hjl] using this
  intro fuel
  induction fuel with
  | zero =>
    intro listed a w hs hc hI
    have hr : Region.ready md ops listed = [] := by
      cases h : Region.ready md ops listed with
      | nil => rfl
      | cons i rs =>
        have hm : i ∈ Region.ready md ops listed := by rw [h]; exact List.mem_cons_self ..
        obtain ⟨h0, o, ho, -⟩ := mem_ready.1 hm
        have hlt : i < ops.size := (Array.getElem?_eq_some_iff.1 ho).1
        have h1 : i ∈ (List.range ops.size).filter fun j => !listed.getD j true := List.mem_filter.2 ⟨List.mem_range.2 hlt, by rw [h0]; rfl⟩
        have := List.length_pos_of_mem h1
        unfold still at hc
        omega
    exact ⟨hr, fin _ _ _ hs hr hI⟩
  | succ fuel ih =>
    intro listed a w hs hc hI
    refine ⟨fun hr => fin _ _ _ hs hr hI, fun i hi => ?_⟩
    obtain ⟨h0, o, ho, hall⟩ := mem_ready.1 hi
    have hlt : i < ops.size := (Array.getElem?_eq_some_iff.1 ho).1
    have hl : i < listed.size := by omega
    have hu : listed.getD i false = false := by simpa [hl] using h0
    refine wpOp_mono (fun a' w' hI' => ih _ a' w' (by simpa using hs) ?_ hI') (hstep _ _ _ _ _ hI hl hu ho hall)
    have : still ops.size (listed.setIfInBounds i true) < still ops.size listed := by
      unfold still
      refine filter_lt (i := i) (fun x hx => ?_) (by rw [h0]; rfl) ?_ _ (List.mem_range.2 hlt)
      · by_cases hxi : i = x
        · subst hxi; rw [h0]; rfl
        · rw [getD_set_ne true hxi] at hx; exact hx
      · have : i < listed.size := by omega
        simp [this]
    omega
end
end Ba
end Go.Proofs.Ytlndggbidmmodaa
