/-
  The document's own batch: what bytes are read as.
-/
import Derived.Test.YtlndggbidmmodaaR12In
import Derived.Test.YtlndggbidmmodaaBaRead
import Derived.BigRegion
namespace Go.Proofs.Ytlndggbidmmodaa
open Go.RowKit Pk
namespace Ba
/-- Where the document's Read stands: the answer's block N, the reader in block N + 1, the batch in block N + 1 + 1, its operations in blocks of the call's own. -/
structure Rr (w W : World) (N : Nat) (ix ep : Int) (A : Option Addr) (c : Nat) (l : List Op) (S : ByteArray) (f : Nat) : Prop where
  res : W.heap[N]? = some (.cells #[.int .i64 0, .int .i64 0, .slice none 0 0] 31 (0, 0))
  inn : W.heap[N + 1]? = some (.cells #[.string S, .int .i64 (f : Int)] 81 (0, 0))
  box : W.heap[N + 1 + 1]? = some (.cells #[.int .i64 ix, .int .i64 ep, .slice A l.length c] 31 (0, 0))
  row : Row W N A c l
  bel : Below N w W
  low : N ≤ W.heap.size
section
variable {w W W' : World} {N : Nat} {ix ep : Int} {A : Option Addr} {c : Nat} {l : List Op} {S : ByteArray} {f : Nat}
theorem Rr.grown (h : Rr w W N ix ep A c l S f) (g : W.grownBy W' (some (N + 1))) {S' : ByteArray} {f' : Nat} (hi : W'.heap[N + 1]? = some (.cells #[.string S', .int .i64 (f' : Int)] 81 (0, 0))) : Rr w W' N ix ep A c l S' f' :=
  ⟨(g.block N (Sm.lt_of h.res) (fun e => by have := Option.some.inj e; omega)).trans h.res, hi, (g.block (N + 1 + 1) (Sm.lt_of h.box) (fun e => by have := Option.some.inj e; omega)).trans h.box, h.row.turned h.inn (by decide) g, h.bel.grown g h.low (fun q hq => by have := Option.some.inj hq; omega), Nat.le_trans h.low g.size⟩
theorem Rr.step (h : Rr w W N ix ep A c l S f) {r' : Rd} (k : R12.StW W W' (N + 1) r') : ∃ S', Rr w W' N ix ep A c l S' r'.f ∧ (r'.f = 0 → S' = R12.left r') := by
  obtain ⟨g, S', hi, hS⟩ := k
  exact ⟨S', h.grown g hi, hS⟩
theorem Rr.inW (h : Rr w W N ix ep A c l S f) {r : Rd} (hf : f = r.f) (hS : r.f = 0 → S = R12.left r) : R12.inW W (N + 1) r := ⟨S, by rw [← hf]; exact h.inn, hS⟩
theorem Rr.low' (h : Rr w W N ix ep A c l S f) (k : Below W.heap.size W W') : Rr w W' N ix ep A c l S f :=
  ⟨(k.block N (Sm.lt_of h.res)).trans h.res, (k.block (N + 1) (Sm.lt_of h.inn)).trans h.inn, (k.block (N + 1 + 1) (Sm.lt_of h.box)).trans h.box, h.row.low k, h.bel.trans (k.mono h.low), Nat.le_trans h.low k.size⟩
theorem Rr.alloc (h : Rr w W N ix ep A c l S f) (o : Obj) : Rr w (W.alloc o) N ix ep A c l S f := h.low' ((Below.refl _ W).alloc (Nat.le_refl _) _)
theorem Rr.fault (h : Rr w W N ix ep A c l S f) (e : Nat) : Rr w (W.setCell ⟨N + 1, 1, none⟩ (.int .i64 (e : Int))) N ix ep A c l S e :=
  h.grown (grown_set (grown_refl _ _) _ _) (Sm.heap_set h.inn 1 (.int .i64 (e : Int)))
theorem Rr.set (h : Rr w W N ix ep A c l S f) (i : Nat) (v : Value) (ix' ep' : Int) (hx : (#[.int .i64 ix, .int .i64 ep, .slice A l.length c] : Array Value).setIfInBounds i v = #[.int .i64 ix', .int .i64 ep', .slice A l.length c]) : Rr w (W.setCell ⟨N + 1 + 1, i, none⟩ v) N ix' ep' A c l S f :=
  ⟨(Below.heap_setCell _ _ _ _ (by show N ≠ N + 1 + 1; omega)).trans h.res, (Below.heap_setCell _ _ _ _ (by show N + 1 ≠ N + 1 + 1; omega)).trans h.inn, by
    have e := Sm.heap_set h.box i v
    rw [hx] at e
    exact e, h.row.keep fun j cs hj => Below.heap_setCell _ _ _ _ (fun e => by
      have e2 : j = N + 1 + 1 := e
      subst e2
      rw [h.box] at hj
      simp only [Option.some.injEq, Obj.cells.injEq] at hj
      exact absurd hj.2.1 (by decide)), h.bel.setCell (p := ⟨N + 1 + 1, i, none⟩) (by show N ≤ N + 1 + 1; omega) _, by simpa using h.low⟩
theorem Rr.push (h : Rr w W N ix ep A c l S f) {A' : Option Addr} {c' : Nat} {x : Op} (hr : Row W' N A' c' (l ++ [x])) (g : W.grownBy W' (Value.slice A l.length c).ownBlock) : Rr w (W'.setCell ⟨N + 1 + 1, 2, none⟩ (.slice A' (l.length + 1) c')) N ix ep A' c' (l ++ [x]) S f := by
  have hl : (l ++ [x]).length = l.length + 1 := by rw [List.length_append]; rfl
  have hbx := (g.block (N + 1 + 1) (Sm.lt_of h.box) (fun e => h.row.off h.box (by decide) e.symm)).trans h.box
  have hrs := (g.block N (Sm.lt_of h.res) (fun e => h.row.off h.res (by decide) e.symm)).trans h.res
  have hin := (g.block (N + 1) (Sm.lt_of h.inn) (fun e => h.row.off h.inn (by decide) e.symm)).trans h.inn
  refine ⟨(Below.heap_setCell _ _ _ _ (by show N ≠ N + 1 + 1; omega)).trans hrs, (Below.heap_setCell _ _ _ _ (by show N + 1 ≠ N + 1 + 1; omega)).trans hin, ?_, hr.keep fun j cs hj => Below.heap_setCell _ _ _ _ (fun e => ?_), (h.bel.grown g h.low (fun q hq => (h.row.blk hq).1)).setCell (p := ⟨N + 1 + 1, 2, none⟩) (by show N ≤ N + 1 + 1; omega) _, by simpa using Nat.le_trans h.low g.size⟩
  · have e := Sm.heap_set hbx 2 (.slice A' (l.length + 1) c')
    rw [hl]
    exact e
  · have e2 : j = N + 1 + 1 := e
    subst e2
    rw [hbx] at hj
    simp only [Option.some.injEq, Obj.cells.injEq] at hj
    exact absurd hj.2.1 (by decide)
end
/-- An operation that is being read lies in block O. -/
structure Ro (w W : World) (N O : Nat) (ix ep : Int) (A : Option Addr) (c : Nat) (l : List Op) (S : ByteArray) (f : Nat) (x : Op) : Prop where
  rr : Rr w W N ix ep A c l S f
  op : W.heap[O]? = some (.cells #[.int .u8 (x.k : Int), .string x.p, .string x.v] 37 (0, 0))
  hO : N + 1 + 1 < O
  off : (Value.slice A l.length c).ownBlock ≠ some O
section
variable {w W W' : World} {N : Nat} {ix ep : Int} {A : Option Addr} {c : Nat} {l : List Op} {S : ByteArray} {f : Nat} {O : Nat} {x x' : Op}
theorem Ro.step (h : Ro w W N O ix ep A c l S f x) {r' : Rd} (k : R12.StW W W' (N + 1) r') : ∃ S', Ro w W' N O ix ep A c l S' r'.f x ∧ (r'.f = 0 → S' = R12.left r') := by
  obtain ⟨S', h1, h2⟩ := h.rr.step k
  exact ⟨S', ⟨h1, (k.grown.block O (Sm.lt_of h.op) (fun e => by have := Option.some.inj e; have := h.hO; omega)).trans h.op, h.hO, h.off⟩, h2⟩
theorem Ro.fault (h : Ro w W N O ix ep A c l S f x) (e : Nat) : Ro w (W.setCell ⟨N + 1, 1, none⟩ (.int .i64 (e : Int))) N O ix ep A c l S e x :=
  ⟨h.rr.fault e, (Below.heap_setCell _ _ _ _ (by have := h.hO; show O ≠ N + 1; omega)).trans h.op, h.hO, h.off⟩
theorem Ro.set (h : Ro w W N O ix ep A c l S f x) (i : Nat) (v : Value) (hx : (#[.int .u8 (x.k : Int), .string x.p, .string x.v] : Array Value).setIfInBounds i v = #[.int .u8 (x'.k : Int), .string x'.p, .string x'.v]) : Ro w (W.setCell ⟨O, i, none⟩ v) N O ix ep A c l S f x' := by
  have hO := h.hO
  refine ⟨⟨(Below.heap_setCell _ _ _ _ (by show N ≠ O; omega)).trans h.rr.res, (Below.heap_setCell _ _ _ _ (by show N + 1 ≠ O; omega)).trans h.rr.inn, (Below.heap_setCell _ _ _ _ (by show N + 1 + 1 ≠ O; omega)).trans h.rr.box, ?_, h.rr.bel.setCell (p := ⟨O, i, none⟩) (by show N ≤ O; omega) _, by simpa using h.rr.low⟩, ?_, hO, h.off⟩
  · obtain ⟨h1, h2⟩ := h.rr.row
    refine ⟨h1, h2.imp id fun ⟨g, cap, cur, hv, hb, hg, rest⟩ => ⟨g, cap, cur, hv, hb, (Below.heap_setCell _ _ _ _ (fun e => ?_)).trans hg, rest⟩⟩
    have e2 : g = O := e
    apply h.off
    rw [hv, ← e2]
    rfl
  · have e := Sm.heap_set h.op i v
    rw [hx] at e
    exact e
end
end Ba
namespace Ba
/-- What is known of the document's reader between two operations. -/
def Al (n F1 : Nat) (LO l : List Op) (S : ByteArray) (f : Nat) : Prop :=
  (f = 0 ∧ ∃ r : Rd, r.Ok ∧ r.f = 0 ∧ S = R12.left r ∧ pdE (n - l.length) r = F1 ∧ (F1 = 0 → l ++ (pdOps (n - l.length) r).1 = LO)) ∨ (f ≠ 0 ∧ f = F1)
theorem al_good {n F1 : Nat} {LO l : List Op} {r : Rd} (hok : r.Ok) (h1 : pdE (n - l.length) r = F1) (h2 : F1 = 0 → l ++ (pdOps (n - l.length) r).1 = LO) (hn : l.length < n) (he : (pdOp r).2.2 = 0) {x : Op} (hx : x = (pdOp r).1) {r' : Rd} (hr : r' = (pdOp r).2.1) {S : ByteArray} (hS : r'.f = 0 → S = R12.left r') : Al n F1 LO (l ++ [x]) S r'.f := by
  have hl : (l ++ [x]).length = l.length + 1 := by rw [List.length_append]; rfl
  have e : n - l.length = (n - (l.length + 1)) + 1 := by omega
  rw [e, pdE_good he, ← hr] at h1
  by_cases hf : r'.f = 0
  · refine .inl ⟨hf, r', by rw [hr]; exact pdOp_ok hok, hf, hS hf, by rw [hl]; exact h1, fun h0 => ?_⟩
    have h3 := h2 h0
    rw [e, pdOps_good he, ← hr, ← hx] at h3
    rw [hl, List.append_assoc]
    exact h3
  · exact .inr ⟨hf, by rw [← h1, pdE_stuck _ hf]⟩
theorem al_bad {n F1 : Nat} {LO l : List Op} {r : Rd} (h1 : pdE (n - l.length) r = F1) (hn : l.length < n) (he : (pdOp r).2.2 ≠ 0) (x : Op) (S : ByteArray) {e : Nat} (hee : e = (pdOp r).2.2) : Al n F1 LO (l ++ [x]) S e := by
  have e1 : n - l.length = (n - (l.length + 1)) + 1 := by omega
  rw [e1, pdE_bad he] at h1
  exact .inr ⟨by rw [hee]; exact he, by rw [hee]; exact h1⟩
theorem byte_bad {r : Rd} (hf : r.f = 0) (h : r.byte.2.f ≠ 0) : r.byte.1 = 0 := by
  by_cases h0 : r.rest = []
  · unfold Rd.byte
    simp only [h0, if_true, pass_false (.inr (show (7 : Nat) ≠ 0 by decide))]
    rfl
  · exfalso
    apply h
    show (r.go 1 (if r.rest = [] then 7 else 0)).f = 0
    rw [if_neg h0, go_ok hf]
    exact hf
theorem left0 (s : ByteArray) : R12.left ⟨s, 0, 0⟩ = s := by
  rw [← ba_eq (R12.left ⟨s, 0, 0⟩), R12.left_rest]
  exact ba_eq s
end Ba
set_option maxRecDepth 100000 in
theorem r12InText_stuck {w : World} {b : Nat} {S : ByteArray} {f : Nat} (hin : w.heap[b]? = some (.cells #[.string S, .int .i64 (f : Int)] 81 (0, 0))) (hf : f ≠ 0) (m : Nat) :
    Calls Try.prog 50 #[.pointer (some ⟨b, 0, none⟩), .int .u64 (m : Int)] w fun e w' => e = .returned (.string ⟨#[]⟩) ∧ w = w' := by
  have NU := Lib.hid (r12InNum_stuck hin hf m)
  have c1 := Sm.cells_of hin 1 _ rfl
  have hfi : ((f : Int) != 0) = true := by rw [bne_iff_ne]; omega
  clear hf hin
  go_enter Try.func50, Try.ntmps50
  go_wp2_with fail
  refine NU.out.mono ?_
  rintro e w' ⟨rfl, rfl⟩
  go_wp2_with fail
  go_ret
  exact ⟨rfl, rfl⟩
end Go.Proofs.Ytlndggbidmmodaa
