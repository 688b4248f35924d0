/-
  batch's May and Right: the closures that tell why an operation may not be, and what goes through a row of them.
-/
import Derived.Test.YtehkbffbehlpnaaR12Right
import Derived.Test.YtehkbffbehlpnaaPaShips
import Derived.Shelf.Abstract
namespace Go.Proofs.Ytehkbffbehlpnaa
open Go.RowKit Pk
namespace Ba
def kind (k : Nat) : Bool := decide (k = 1) || decide (k = 2)
theorem kind_no {k : Nat} (h1 : ¬ k = 1) (h2 : ¬ k = 2) : kind k = false := by simp [kind, h1, h2]
/-- Why an operation may not be, where er is what is told of its path. -/
def why (o : Op) (er : Nat) : Nat := if o.k ≠ 1 ∧ o.k ≠ 2 then 10 else if er ≠ 0 then er else value o
/-- What is told of the first one that may not be. -/
def whys (f : Op → Nat) : List Op → Nat
  | [] => 0
  | o :: r => if f o = 0 then whys f r else f o
def firstE (f : Op → Nat) (l : List Op) : Nat := if 4 < l.length then 3 else whys f l
theorem whys_drop {f : Op → Nat} {l : List Op} {k : Nat} (hk : k < l.length) : whys f (l.drop k) = if f l[k] = 0 then whys f (l.drop (k + 1)) else f l[k] := by
  rw [List.drop_eq_getElem_cons hk, whys]
def cutE (p : ByteArray) : Nat := if Pa.ok p.data.toList = false then 20 else 0
def ofE (m : List Pa.Mo) (p : ByteArray) : Nat := (Pa.of3 m p.data.toList).2.2.toNat
theorem ofE_eq (m : List Pa.Mo) (p : ByteArray) : ((ofE m p : Nat) : Int) = (Pa.of3 m p.data.toList).2.2 := by
  unfold ofE
  rcases R12.of3_nonneg m p.data.toList with h | h | h <;> rw [h] <;> rfl
theorem why_bars (o : Op) : why o (cutE o.p) = bars o := by
  unfold why bars cutE
  cases Pa.ok o.p.data.toList <;> simp
theorem whys_bar (l : List Op) : whys (fun o => why o (cutE o.p)) l = bar l := by
  induction l with
  | nil => rfl
  | cons o r ih => rw [whys, bar, why_bars, ih]
theorem whys_may (m : List Pa.Mo) (l : List Op) : whys (fun o => why o (ofE m o.p)) l = R12.may m l := by
  induction l with
  | nil => rfl
  | cons o r ih =>
    rw [whys, R12.may, ih]
    unfold why
    have e := ofE_eq m o.p
    by_cases h1 : o.k ≠ 1 ∧ o.k ≠ 2
    · rw [if_pos h1, if_neg (by decide), if_pos h1]
    · rw [if_neg h1, if_neg h1]
      by_cases h2 : ofE m o.p = 0
      · rw [if_neg (show ¬ ofE m o.p ≠ 0 by omega), if_neg (show ¬ (Pa.of3 m o.p.data.toList).2.2 ≠ 0 by omega)]
        by_cases h3 : value o = 0
        · rw [if_pos h3, if_neg (show ¬ value o ≠ 0 by omega)]
        · rw [if_neg h3, if_pos h3]
      · rw [if_pos (show ofE m o.p ≠ 0 from h2), if_neg h2, if_pos (show (Pa.of3 m o.p.data.toList).2.2 ≠ 0 by omega)]
        rfl
end Ba
theorem baIsKind_any (w : World) (k : Nat) : Calls Try.prog 75 #[.int .u8 (k : Int)] w fun e w' => e = .returned (.bool (Ba.kind k)) ∧ w = w' := by
  by_cases h1 : k = 1
  · subst h1
    go_enter Try.func75, Try.ntmps75
    go_wp2
    go_ret
    exact ⟨rfl, rfl⟩
  · by_cases h2 : k = 2
    · subst h2
      go_enter Try.func75, Try.ntmps75
      go_wp2
      go_ret
      exact ⟨rfl, rfl⟩
    · rw [Ba.kind_no h1 h2]
      have e1 : ((k : Int) == 1) = false := by rw [beq_eq_false_iff_ne]; omega
      have e2 : ((k : Int) == 2) = false := by rw [beq_eq_false_iff_ne]; omega
      clear h1 h2
      go_enter Try.func75, Try.ntmps75
      go_wp2
      go_ret
      exact ⟨rfl, rfl⟩
set_option maxRecDepth 100000 in
set_option maxHeartbeats 1000000 in
theorem baRight1_any (w : World) (p : ByteArray) (hp : p.size ≤ 281474976710656) :
    Calls Try.prog 62 #[.string p] w fun e w' => e = .returned (.int .i64 (Ba.cutE p : Nat)) ∧ Below w.heap.size w w' := by
  have CU := Lib.hid (paCut_any w p hp)
  unfold Pa.cutV at CU
  unfold Ba.cutE
  cases ho : Pa.ok p.data.toList
  · rw [ho] at CU
    rw [if_pos rfl]
    clear ho
    go_enter Try.func62, Try.ntmps62
    go_wp2_with fail
    refine CU.out.mono ?_
    rintro e w1 ⟨rfl, b1⟩
    go_wp2
    go_ret
    exact ⟨rfl, b1⟩
  · rw [ho] at CU
    rw [if_neg (by decide)]
    clear ho
    go_enter Try.func62, Try.ntmps62
    go_wp2_with fail
    refine CU.out.mono ?_
    rintro e w1 ⟨rfl, b1⟩
    go_wp2
    go_ret
    exact ⟨rfl, b1⟩
set_option maxRecDepth 100000 in
set_option maxHeartbeats 2000000 in
theorem baWhyR_any (w : World) (o : Ba.Op) (hp : o.p.size ≤ 281474976710656) (g : Nat) (hg : w.cell? ⟨g, 0, none⟩ = some (.func (.func 62) #[] #[])) (hgl : g < w.heap.size) :
    Calls Try.prog 74 #[.agg #[.int .u8 (o.k : Int), .string o.p, .string o.v], .pointer (some ⟨g, 0, none⟩)] w fun e w' => e = .returned (.int .i64 (Ba.why o (Ba.cutE o.p) : Nat)) ∧ Below w.heap.size w w' := by
  have eg : ∀ args w, (callFunc 62 args).run Try.prog w = .ok (.enter 62 args) w := Go.Proofs.enters_of Try.func62 (by kernel_rfl) rfl
  obtain ⟨k, p, v⟩ := o
  simp only at hp ⊢
  have gn := heap_alloc_new w (.cells #[.int .u8 (k : Int), .string p, .string v] 52)
  have b1 : Below w.heap.size w (w.alloc (.cells #[.int .u8 (k : Int), .string p, .string v] 52)) := (Below.refl _ w).alloc (Nat.le_refl _) _
  have hg1 : (w.alloc (.cells #[.int .u8 (k : Int), .string p, .string v] 52)).cell? ⟨g, 0, none⟩ = some (.func (.func 62) #[] #[]) := (b1.cell (p := ⟨g, 0, none⟩) hgl).trans hg
  have x0 := Sm.cells_of gn 0 _ rfl
  have x1 := Sm.cells_of gn 1 _ rfl
  obtain ⟨er, her⟩ : ∃ n : Nat, n = (Ba.cutE p) := ⟨_, rfl⟩
  have CC := Lib.hid (baRight1_any (w.alloc (.cells #[.int .u8 (k : Int), .string p, .string v] 52)) p hp)
  rw [← her] at CC ⊢
  have KI := Lib.hid (fun wx => baIsKind_any wx k)
  obtain ⟨N, hN⟩ : ∃ N, N = w.heap.size := ⟨_, rfl⟩
  have GN := Lib.hid gn
  have B1 := Lib.hid b1
  clear her gn b1 hg hp
  unfold Ba.why
  simp only
  by_cases hk : k ≠ 1 ∧ k ≠ 2
  · rw [if_pos hk]
    rw [Ba.kind_no hk.1 hk.2] at KI
    clear hk
    go_enter Try.func74, Try.ntmps74
    go_wp2_with fail
    refine (KI.out _).mono ?_
    rintro e w2 ⟨rfl, rfl⟩
    go_wp2
    go_ret
    exact ⟨rfl, B1.out⟩
  · rw [if_neg hk]
    have hkk : Ba.kind k = true := by unfold Ba.kind; simp; omega
    rw [hkk] at KI
    clear hkk
    by_cases he : er = 0
    · rw [if_neg (by omega)]
      have hei : ((er : Int) != 0) = false := by rw [he]; rfl
      have HK := Lib.hid hk
      clear hk he
      have W2 : ∀ w2, Below (w.alloc (.cells #[.int .u8 (k : Int), .string p, .string v] 52)).heap.size (w.alloc (.cells #[.int .u8 (k : Int), .string p, .string v] 52)) w2 → Hid (Below w.heap.size w w2) ∧ w2.cell? ⟨w.heap.size, 0, none⟩ = some (.int .u8 k) ∧ w2.cell? ⟨w.heap.size, 2, none⟩ = some (.string v) := fun w2 b2 => by
        have g2 := (b2.block w.heap.size (Sm.lt_of GN.out)).trans GN.out
        exact ⟨B1.out.trans (b2.mono B1.out.size), Sm.cells_of g2 0 _ rfl, Sm.cells_of g2 2 _ rfl⟩
      have HW := Lib.hid W2
      clear W2
      unfold Ba.value
      simp only
      by_cases h1 : 32 < v.size
      · rw [if_pos h1]
        have h1' : (32 : Int) < (v.size : Int) := by omega
        go_enter Try.func74, Try.ntmps74
        go_wp2_with fail
        refine (KI.out _).mono ?_
        rintro e w2 ⟨rfl, rfl⟩
        go_wp2_with (go_at_fn 62; refine CC.out.mono ?_; rintro e w3 ⟨rfl, b3⟩; obtain ⟨B3, y0, y2⟩ := HW.out _ b3; clear b3)
        go_ret
        exact ⟨rfl, B3.out⟩
      · rw [if_neg h1]
        have h1' : ¬ (32 : Int) < (v.size : Int) := by omega
        by_cases h2 : k = 2
        · have h2' : ((k : Int) == 2) = true := by rw [h2]; rfl
          by_cases h3 : v.size = 0
          · have h3' := R12.text_none h3
            rw [if_neg (by omega)]
            clear h2
            go_enter Try.func74, Try.ntmps74
            go_wp2_with fail
            refine (KI.out _).mono ?_
            rintro e w2 ⟨rfl, rfl⟩
            go_wp2_with (go_at_fn 62; refine CC.out.mono ?_; rintro e w3 ⟨rfl, b3⟩; obtain ⟨B3, y0, y2⟩ := HW.out _ b3; clear b3)
            go_ret
            exact ⟨rfl, B3.out⟩
          · have h3' := R12.text_ne h3
            rw [if_pos ⟨h2, h3⟩]
            clear h2
            go_enter Try.func74, Try.ntmps74
            go_wp2_with fail
            refine (KI.out _).mono ?_
            rintro e w2 ⟨rfl, rfl⟩
            go_wp2_with (go_at_fn 62; refine CC.out.mono ?_; rintro e w3 ⟨rfl, b3⟩; obtain ⟨B3, y0, y2⟩ := HW.out _ b3; clear b3)
            go_ret
            exact ⟨rfl, B3.out⟩
        · have h2' : ((k : Int) == 2) = false := by rw [beq_eq_false_iff_ne]; omega
          rw [if_neg (by omega)]
          go_enter Try.func74, Try.ntmps74
          go_wp2_with fail
          refine (KI.out _).mono ?_
          rintro e w2 ⟨rfl, rfl⟩
          go_wp2_with (go_at_fn 62; refine CC.out.mono ?_; rintro e w3 ⟨rfl, b3⟩; obtain ⟨B3, y0, y2⟩ := HW.out _ b3; clear b3)
          go_ret
          exact ⟨rfl, B3.out⟩
    · rw [if_pos he]
      have hei : ((er : Int) != 0) = true := by rw [bne_iff_ne]; omega
      clear hk he
      go_enter Try.func74, Try.ntmps74
      go_wp2_with fail
      refine (KI.out _).mono ?_
      rintro e w2 ⟨rfl, rfl⟩
      go_wp2_with (go_at_fn 62; refine CC.out.mono ?_; rintro e w3 ⟨rfl, b3⟩)
      go_ret
      exact ⟨rfl, B1.out.trans (b3.mono B1.out.size)⟩
end Go.Proofs.Ytehkbffbehlpnaa
