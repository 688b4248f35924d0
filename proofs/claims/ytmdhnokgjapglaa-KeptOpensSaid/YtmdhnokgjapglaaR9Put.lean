/-
  The document's kept: Put.
-/
import Derived.Test.YtmdhnokgjapglaaR9Open
import Derived.BigRegion
namespace Go.Proofs.Ytmdhnokgjapglaa
open Go.RowKit
theorem results_cct {fn : Func} {p q u : Tmp} {ty tz : TypeId} (h : fn.results = #[.cell p ty, .cell q tz, .tmp u]) (tmps : Array Value) (P : Program) (w : World) :
    (results fn tmps).run P w =
      ((asAddr (tmps.getD p undef)).run P w).andThen fun a w₁ => ((loadVar ty a).run P w₁).andThen fun v w₂ => ((asAddr (tmps.getD q undef)).run P w₂).andThen fun b w₃ => ((loadVar tz b).run P w₃).andThen fun x w₄ => .ok (.tuple #[v, x, tmps.getD u undef]) w₄ := by
  simp only [results, h]
  simp [Sem.run_bind, Result.andThen]
namespace Dk
theorem RefAt.quad {w : World} {fp : Nat → Prop} {v : Value} {M : Md} (h : RefAt w fp v M) : ∃ A n c B m d f o, v = .agg #[.slice A n c, .slice B m d, .int .i64 f, .bool o] := by
  obtain ⟨A, c, B, d, ws, e, _⟩ := h
  exact ⟨_, _, _, _, _, _, _, _, e⟩
theorem RefAt.turned {w w' : World} {f f' : Nat → Prop} {v : Value} {M : Md} (h : RefAt w f v M) (t : Turned f w w') (hf : ∀ q, f' q → f q ∨ w.heap.size ≤ q) : RefAt w' f' v M := by
  obtain ⟨A, c, Bw, d, ws, e, h1, h2, h3, h4, h5, h6⟩ := h
  have hs := t.size
  have hn : ∀ g, g < w.heap.size ∧ ¬ f g → g < w'.heap.size ∧ ¬ f' g := fun g hg => ⟨by omega, fun hf' => by
    rcases hf g hf' with x | x
    · exact hg.2 x
    · omega⟩
  exact ⟨A, c, Bw, d, ws, e, h1.keep hs fun g _ hg => t.block g (h4 g hg).1 (h4 g hg).2, h2.keep hs fun g _ hg => t.block g (h5 g hg).1 (h5 g hg).2, h3, fun g hg => hn g (h4 g hg), fun g hg => hn g (h5 g hg), h6⟩
theorem Turned.set {f : Nat → Prop} {w w' : World} (h : Turned f w w') {k : Nat} (hk : f k) (o : Nat) (v : Value) : Turned f w (w'.setCell ⟨k, o, none⟩ v) :=
  h.trans ⟨rfl, rfl, rfl, by simp, fun i _ hn => Below.heap_setCell _ ⟨k, o, none⟩ v i (fun e => hn (e ▸ hk))⟩
end Dk
namespace Kp
/-- The call's own blocks: the Kept, the Disk, the results'. -/
structure Fr9 (N : Nat) (w : World) (kc dc : Array Value) : Prop where
  kb : w.heap[N]? = some (.cells kc 39 (0, 0))
  db : w.heap[N + 1]? = some (.cells dc 32 (0, 0))
  kr : w.heap[N + 2]? = some (.cells #[.int .i64 0, .string ⟨#[]⟩, .int .u64 0, .int .i64 0, .int .u64 0, .bool false] 39 (0, 0))
  dr : w.heap[N + 3]? = some (.cells #[.slice none 0 0, .slice none 0 0, .int .i64 0, .bool false] 32 (0, 0))
theorem Fr9.low {N : Nat} {w w' : World} {kc dc : Array Value} (h : Fr9 N w kc dc) (k : Below w.heap.size w w') : Fr9 N w' kc dc :=
  ⟨(k.block N (Sm.lt_of h.kb)).trans h.kb, (k.block _ (Sm.lt_of h.db)).trans h.db, (k.block _ (Sm.lt_of h.kr)).trans h.kr, (k.block _ (Sm.lt_of h.dr)).trans h.dr⟩
theorem fr9_new (w : World) (kc dc : Array Value) : Fr9 w.heap.size ((((w.alloc (.cells kc 39)).alloc (.cells dc 32)).alloc (.cells #[.int .i64 0, .string ⟨#[]⟩, .int .u64 0, .int .i64 0, .int .u64 0, .bool false] 39)).alloc (.cells #[.slice none 0 0, .slice none 0 0, .int .i64 0, .bool false] 32)) kc dc ∧
    Below w.heap.size w ((((w.alloc (.cells kc 39)).alloc (.cells dc 32)).alloc (.cells #[.int .i64 0, .string ⟨#[]⟩, .int .u64 0, .int .i64 0, .int .u64 0, .bool false] 39)).alloc (.cells #[.slice none 0 0, .slice none 0 0, .int .i64 0, .bool false] 32)) := by
  refine ⟨⟨?_, ?_, ?_, ?_⟩, ((((Below.refl _ w).alloc (Nat.le_refl _) _).alloc (by simp) _).alloc (by simp <;> omega) _).alloc (by simp <;> omega) _⟩
  · rw [Below.heap_alloc _ _ _ (by simp <;> omega), Below.heap_alloc _ _ _ (by simp <;> omega), Below.heap_alloc _ _ _ (by simp)]; exact heap_alloc_new w _
  · have := heap_alloc_new (w.alloc (.cells kc 39)) (.cells dc 32)
    rw [World.size_alloc] at this
    rw [Below.heap_alloc _ _ _ (by simp <;> omega), Below.heap_alloc _ _ _ (by simp)]; exact this
  · have := heap_alloc_new ((w.alloc (.cells kc 39)).alloc (.cells dc 32)) (.cells #[.int .i64 0, .string ⟨#[]⟩, .int .u64 0, .int .i64 0, .int .u64 0, .bool false] 39)
    rw [World.size_alloc, World.size_alloc] at this
    rw [Below.heap_alloc _ _ _ (by simp)]; exact this
  · have := heap_alloc_new (((w.alloc (.cells kc 39)).alloc (.cells dc 32)).alloc (.cells #[.int .i64 0, .string ⟨#[]⟩, .int .u64 0, .int .i64 0, .int .u64 0, .bool false] 39)) (.cells #[.slice none 0 0, .slice none 0 0, .int .i64 0, .bool false] 32)
    rw [World.size_alloc, World.size_alloc, World.size_alloc] at this
    exact this
theorem Fr9.sz {N : Nat} {w : World} {kc dc : Array Value} (h : Fr9 N w kc dc) : N + 4 ≤ w.heap.size := Sm.lt_of h.dr
/-- The results' cells are laid. -/
structure Fin9 (N : Nat) (w : World) (ks ds : Array Value) (w' : World) : Prop where
  kr : w'.heap[N + 2]? = some (.cells ks 39 (0, 0))
  dr : w'.heap[N + 3]? = some (.cells ds 32 (0, 0))
  tu : Dk.Turned (fun q => q = N + 2 ∨ q = N + 3) w w'
def sets9 (w : World) (N : Nat) (a0 a1 a2 a3 a4 a5 b0 b1 b2 b3 : Value) : World :=
  (((((((((w.setCell ⟨N + 1 + 1, 0, none⟩ a0).setCell ⟨N + 1 + 1, 1, none⟩ a1).setCell ⟨N + 1 + 1, 2, none⟩ a2).setCell ⟨N + 1 + 1, 3, none⟩ a3).setCell ⟨N + 1 + 1, 4, none⟩ a4).setCell ⟨N + 1 + 1, 5, none⟩ a5).setCell ⟨N + 1 + 1 + 1, 0, none⟩ b0).setCell ⟨N + 1 + 1 + 1, 1, none⟩ b1).setCell ⟨N + 1 + 1 + 1, 2, none⟩ b2).setCell ⟨N + 1 + 1 + 1, 3, none⟩ b3
theorem set6 {w : World} {N : Nat} {cs : Array Value} {t : TypeId} {q : Nat × Nat} (h : w.heap[N]? = some (.cells cs t q)) (hs : cs.size = 6) (a b c d e f : Value) :
    ((((((w.setCell ⟨N, 0, none⟩ a).setCell ⟨N, 1, none⟩ b).setCell ⟨N, 2, none⟩ c).setCell ⟨N, 3, none⟩ d).setCell ⟨N, 4, none⟩ e).setCell ⟨N, 5, none⟩ f).heap[N]? = some (.cells #[a, b, c, d, e, f] t q) := by
  obtain ⟨x0, x1, x2, x3, x4, x5, rfl⟩ : ∃ x0 x1 x2 x3 x4 x5, cs = #[x0, x1, x2, x3, x4, x5] := by
    rcases cs with ⟨l⟩
    match l, hs with
    | [x0, x1, x2, x3, x4, x5], _ => exact ⟨x0, x1, x2, x3, x4, x5, rfl⟩
  rw [Sm.heap_set (Sm.heap_set (Sm.heap_set (Sm.heap_set (Sm.heap_set (Sm.heap_set h 0 a) 1 b) 2 c) 3 d) 4 e) 5 f]
  simp
theorem set6_other (w : World) (N : Nat) (a b c d e f : Value) (i : Nat) (h : i ≠ N) :
    ((((((w.setCell ⟨N, 0, none⟩ a).setCell ⟨N, 1, none⟩ b).setCell ⟨N, 2, none⟩ c).setCell ⟨N, 3, none⟩ d).setCell ⟨N, 4, none⟩ e).setCell ⟨N, 5, none⟩ f).heap[i]? = w.heap[i]? := by
  rw [Below.heap_setCell _ _ _ _ h, Below.heap_setCell _ _ _ _ h, Below.heap_setCell _ _ _ _ h, Below.heap_setCell _ _ _ _ h, Below.heap_setCell _ _ _ _ h, Below.heap_setCell _ _ _ _ h]
theorem turned6 (w : World) (N : Nat) (a b c d e f : Value) : Dk.Turned (fun q => q = N) w ((((((w.setCell ⟨N, 0, none⟩ a).setCell ⟨N, 1, none⟩ b).setCell ⟨N, 2, none⟩ c).setCell ⟨N, 3, none⟩ d).setCell ⟨N, 4, none⟩ e).setCell ⟨N, 5, none⟩ f) :=
  by
  have h1 := turned_set w N 0 a
  have h2 := h1.trans (turned_set (w.setCell ⟨N, 0, none⟩ a) N 1 b)
  have h3 := h2.trans (turned_set ((w.setCell ⟨N, 0, none⟩ a).setCell ⟨N, 1, none⟩ b) N 2 c)
  have h4 := h3.trans (turned_set (((w.setCell ⟨N, 0, none⟩ a).setCell ⟨N, 1, none⟩ b).setCell ⟨N, 2, none⟩ c) N 3 d)
  have h5 := h4.trans (turned_set ((((w.setCell ⟨N, 0, none⟩ a).setCell ⟨N, 1, none⟩ b).setCell ⟨N, 2, none⟩ c).setCell ⟨N, 3, none⟩ d) N 4 e)
  exact h5.trans (turned_set (((((w.setCell ⟨N, 0, none⟩ a).setCell ⟨N, 1, none⟩ b).setCell ⟨N, 2, none⟩ c).setCell ⟨N, 3, none⟩ d).setCell ⟨N, 4, none⟩ e) N 5 f)
theorem turned4 (w : World) (N : Nat) (a b c d : Value) : Dk.Turned (fun q => q = N) w ((((w.setCell ⟨N, 0, none⟩ a).setCell ⟨N, 1, none⟩ b).setCell ⟨N, 2, none⟩ c).setCell ⟨N, 3, none⟩ d) :=
  (((turned_set w N 0 a).trans (turned_set _ N 1 b)).trans (turned_set _ N 2 c)).trans (turned_set _ N 3 d)
theorem Fr9.fin {N : Nat} {w : World} {kc dc : Array Value} (h : Fr9 N w kc dc) (a0 a1 a2 a3 a4 a5 b0 b1 b2 b3 : Value) : Fin9 N w #[a0, a1, a2, a3, a4, a5] #[b0, b1, b2, b3] (sets9 w N a0 a1 a2 a3 a4 a5 b0 b1 b2 b3).drew := by
  have k1 := set6 (N := N + 1 + 1) h.kr rfl a0 a1 a2 a3 a4 a5
  have k2 := (set6_other w (N + 1 + 1) a0 a1 a2 a3 a4 a5 (N + 1 + 1 + 1) (by omega)).trans h.dr
  have t1 := turned6 w (N + 1 + 1) a0 a1 a2 a3 a4 a5
  unfold sets9
  generalize ((((((w.setCell ⟨N + 1 + 1, 0, none⟩ a0).setCell ⟨N + 1 + 1, 1, none⟩ a1).setCell ⟨N + 1 + 1, 2, none⟩ a2).setCell ⟨N + 1 + 1, 3, none⟩ a3).setCell ⟨N + 1 + 1, 4, none⟩ a4).setCell ⟨N + 1 + 1, 5, none⟩ a5) = w1 at *
  have k3 := (Dk.set4_other w1 (N + 1 + 1 + 1) b0 b1 b2 b3 (N + 1 + 1) (by omega)).trans k1
  have k4 := Dk.set4 k2 rfl b0 b1 b2 b3
  have t2 := turned4 w1 (N + 1 + 1 + 1) b0 b1 b2 b3
  generalize ((((w1.setCell ⟨N + 1 + 1 + 1, 0, none⟩ b0).setCell ⟨N + 1 + 1 + 1, 1, none⟩ b1).setCell ⟨N + 1 + 1 + 1, 2, none⟩ b2).setCell ⟨N + 1 + 1 + 1, 3, none⟩ b3) = w2 at *
  exact ⟨k3, k4, ((t1.mono fun i e => .inl e).trans (t2.mono fun i e => .inr e)).drew⟩
theorem Fin9.below {N : Nat} {w0 w w' : World} {ks ds : Array Value} (h : Fin9 N w ks ds w') (b : Below N w0 w) (hs : N ≤ w.heap.size) : Below N w0 w' := b.trans (h.tu.below (fun q e => by omega) hs)
/-- In the loop: the call's own blocks, and the document's disk. -/
structure Lo9 (w w5 wr : World) (N : Nat) (fp : Nat → Prop) (kc dc : Array Value) (v : Value) (M : Dk.Md) : Prop where
  fr : Fr9 N wr kc dc
  ref : Dk.RefAt wr fp v M
  lt : ∀ q, fp q → q < wr.heap.size
  own : ∀ q, N ≤ q → q < N + 4 → fp q
  bel : Below N w wr
  tu : Dk.Turned (fun q => q < N + 4) w5 wr
section
variable {w w5 wr w' : World} {N : Nat} {fp : Nat → Prop} {kc dc : Array Value} {v v' : Value} {M M' : Dk.Md}
theorem Lo9.write (h : Lo9 w w5 wr N fp kc dc v M) (r : Dk.RefAt w' fp v' M') (k : Below wr.heap.size wr w') : Lo9 w w5 w' N fp kc dc v' M' :=
  ⟨h.fr.low k, r, fun q hq => Nat.lt_of_lt_of_le (h.lt q hq) k.size, h.own, h.bel.trans (k.mono (by have := h.fr.sz; omega)), h.tu.trans (Dk.Turned.of_below k (Nat.le_refl _))⟩
theorem Lo9.low (h : Lo9 w w5 wr N fp kc dc v M) (k : Below wr.heap.size wr w') : Lo9 w w5 w' N fp kc dc v M := h.write (h.ref.low k) k
theorem Lo9.alloc (h : Lo9 w w5 wr N fp kc dc v M) (o : Obj) : Lo9 w w5 (wr.alloc o) N (fun q => fp q ∨ q = wr.heap.size) kc dc v M := by
  have k : Below wr.heap.size wr (wr.alloc o) := (Below.refl _ wr).alloc (Nat.le_refl _) o
  refine ⟨h.fr.low k, h.ref.turned (f := fp) (Dk.Turned.of_below k (Nat.le_refl _)) (fun q e => e.imp id fun e => Nat.le_of_eq e.symm), fun q hq => ?_, fun q h1 h2 => .inl (h.own q h1 h2), h.bel.trans (k.mono (by have := h.fr.sz; omega)), h.tu.trans (Dk.Turned.of_below k (Nat.le_refl _))⟩
  rcases hq with e | e
  · have := h.lt q e; simp; omega
  · rw [e]; simp
theorem Lo9.off (h : Lo9 w w5 wr N fp kc dc v M) {g : Nat → Prop} (hg : ∀ q, g q → fp q) (ho : ∀ q, N ≤ q → q < N + 4 → g q) : Lo9 w w5 wr N g kc dc v M :=
  ⟨h.fr, h.ref.off fun q _ e => hg q e, fun q e => h.lt q (hg q e), ho, h.bel, h.tu⟩
theorem Lo9.setQ (h : Lo9 w w5 wr N fp kc dc v M) {Q : Nat} (hQ : w5.heap.size ≤ Q) (hN : N + 4 ≤ Q) (hf : fp Q) (a b c d : Value) :
    Lo9 w w5 ((((wr.setCell ⟨Q, 0, none⟩ a).setCell ⟨Q, 1, none⟩ b).setCell ⟨Q, 2, none⟩ c).setCell ⟨Q, 3, none⟩ d) N fp kc dc v M := by
  have t : Dk.Turned (fun q => q = Q) wr ((((wr.setCell ⟨Q, 0, none⟩ a).setCell ⟨Q, 1, none⟩ b).setCell ⟨Q, 2, none⟩ c).setCell ⟨Q, 3, none⟩ d) := turned4 wr _ a b c d
  have o := fun i hi => Dk.set4_other wr Q a b c d i hi
  refine ⟨⟨(o N (by omega)).trans h.fr.kb, (o _ (by omega)).trans h.fr.db, (o _ (by omega)).trans h.fr.kr, (o _ (by omega)).trans h.fr.dr⟩, h.ref.turned (t.mono fun i e => by rw [e]; exact hf) fun _ => .inl, fun q hq => Nat.lt_of_lt_of_le (h.lt q hq) t.size, h.own, h.bel.trans (t.below (fun q e => by omega) (by have := h.fr.sz; omega)), ?_⟩
  have hs := h.tu.size
  exact ⟨t.os.trans h.tu.os, t.tape.trans h.tu.tape, t.output.trans h.tu.output, Nat.le_trans hs t.size, fun i hi hn => (t.block i (by omega) (by omega)).trans (h.tu.block i hi hn)⟩
theorem Lo9.setD (h : Lo9 w w5 wr N fp kc dc v M) (hd : dc.size = 4) (a b c d : Value) :
    Lo9 w w5 ((((wr.setCell ⟨N + 1, 0, none⟩ a).setCell ⟨N + 1, 1, none⟩ b).setCell ⟨N + 1, 2, none⟩ c).setCell ⟨N + 1, 3, none⟩ d) N fp kc #[a, b, c, d] v M := by
  have t : Dk.Turned (fun q => q = N + 1) wr ((((wr.setCell ⟨N + 1, 0, none⟩ a).setCell ⟨N + 1, 1, none⟩ b).setCell ⟨N + 1, 2, none⟩ c).setCell ⟨N + 1, 3, none⟩ d) := turned4 wr _ a b c d
  have o := fun i hi => Dk.set4_other wr (N + 1) a b c d i hi
  refine ⟨⟨(o N (by omega)).trans h.fr.kb, Dk.set4 h.fr.db hd a b c d, (o _ (by omega)).trans h.fr.kr, (o _ (by omega)).trans h.fr.dr⟩, h.ref.turned (t.mono fun i e => by rw [e]; exact h.own _ (by omega) (by omega)) fun _ => .inl, fun q hq => Nat.lt_of_lt_of_le (h.lt q hq) t.size, h.own, h.bel.trans (t.below (fun q e => by omega) (by have := h.fr.sz; omega)), ?_⟩
  have hs := h.tu.size
  exact ⟨t.os.trans h.tu.os, t.tape.trans h.tu.tape, t.output.trans h.tu.output, Nat.le_trans hs t.size, fun i hi hn => (t.block i (by omega) (by omega)).trans (h.tu.block i hi hn)⟩
end
theorem puts_ok : ∀ (l : List (List UInt8)) (M : Dk.Md) (i : Int), M.Ok → (puts M i l).1.Ok
  | [], M, i, h => h
  | b :: l, M, i, h => by
    rw [puts]
    split
    · exact puts_ok l _ _ (h.write _ _)
    · exact h.write _ _
theorem info_dsk9 {c : List Value} (h : c.length = 4) : (Try.prog.info? 32).map (·.size) = some c.length := by rw [h]; kernel_rfl
end Kp
set_option maxRecDepth 100000 in
set_option maxHeartbeats 4000000 in
theorem r9Put_any {w : World} {fp : Nat → Prop} {v : Value} {M : Dk.Md} {K : Kp.Md} (h : Dk.RefAt w fp v M) (hM : M.Ok) (hfp : ∀ k, fp k → k < w.heap.size) (hq : Dk.waits M + 9 ≤ 1099511627775) (hf : Kp.Fit K M) (t : ByteArray) (ht : t.size ≤ 1000) :
    Calls Try.prog 22 #[.agg (Kp.kv K), v, .string t] w fun e w' => ∃ v', e = .returned (.tuple #[.agg (Kp.kv (Kp.put K M t.data.toList).1), v', .int .i64 (Kp.put K M t.data.toList).2.2]) ∧ Dk.RefAt w' fp v' (Kp.put K M t.data.toList).2.1 ∧ Below w.heap.size w w' := by
  have HR := Lib.hid h
  obtain ⟨sA, sn, sc, sB, sm, sd, f, o, rfl⟩ := h.quad
  obtain ⟨fr, kt, g, nx, se, br⟩ := K
  have htl : t.data.toList.length = t.size := by simp
  obtain ⟨tx, htx⟩ : ∃ b : ByteArray, b = ⟨kt.toArray⟩ := ⟨_, rfl⟩
  obtain ⟨sl, hsl⟩ : ∃ x : Int, x = 1 - (nx : Int) := ⟨_, rfl⟩
  have HF := Lib.hid hf
  have HQ := Lib.hid hq
  have HM := Lib.hid hM
  have HFP := Lib.hid hfp
  have HTX := Lib.hid htx
  have HSL := Lib.hid hsl
  show Calls Try.prog 22 #[.agg #[.int .i64 fr, .string ⟨kt.toArray⟩, .int .u64 (g : Nat), .int .i64 (1 - (nx : Int)), .int .u64 (se : Nat), .bool br], .agg #[.slice sA sn sc, .slice sB sm sd, .int .i64 f, .bool o], .string t] w _
  rw [← htx, ← hsl]
  obtain ⟨F4, B4⟩ := Kp.fr9_new w #[.int .i64 fr, .string tx, .int .u64 (g : Nat), .int .i64 sl, .int .u64 (se : Nat), .bool br] #[.slice sA sn sc, .slice sB sm sd, .int .i64 f, .bool o]
  obtain ⟨w4, hw4⟩ : ∃ y, y = ((((w.alloc (.cells #[.int .i64 fr, .string tx, .int .u64 (g : Nat), .int .i64 sl, .int .u64 (se : Nat), .bool br] 39)).alloc (.cells #[.slice sA sn sc, .slice sB sm sd, .int .i64 f, .bool o] 32)).alloc (.cells #[.int .i64 0, .string ⟨#[]⟩, .int .u64 0, .int .i64 0, .int .u64 0, .bool false] 39)).alloc (.cells #[.slice none 0 0, .slice none 0 0, .int .i64 0, .bool false] 32)) := ⟨_, rfl⟩
  rw [← hw4] at F4 B4
  have HW4 := Lib.hid hw4
  obtain ⟨N, hN⟩ : ∃ n, n = w.heap.size := ⟨_, rfl⟩
  have HN := Lib.hid hN
  rw [← hN] at F4 B4
  have HREF : Hid (∀ w', Below N w w' → Dk.RefAt w' fp (.agg #[.slice sA sn sc, .slice sB sm sd, .int .i64 f, .bool o]) M) := fun w' k => HR.out.low (by rw [← HN.out]; exact k)
  have HF4 := Lib.hid F4
  have HB4 := Lib.hid B4
  clear h hf hq hM hfp htx hsl hw4 hN F4 B4
  cases br with
  | true =>
    have EK : Hid (Kp.kv ⟨fr, kt, g, nx, se, true⟩ = #[.int .i64 fr, .string tx, .int .u64 (g : Int), .int .i64 sl, .int .u64 (se : Int), .bool true]) := by show _ = _; rw [HTX.out, HSL.out]; rfl
    have e : Kp.put ⟨fr, kt, g, nx, se, true⟩ M t.data.toList = (⟨fr, kt, g, nx, se, true⟩, M, 11) := by simp [Kp.put]
    rw [e]
    clear e
    have F4 := HF4.out
    have k0 := Sm.cells_of F4.kb 0 _ rfl; have k1 := Sm.cells_of F4.kb 1 _ rfl; have k2 := Sm.cells_of F4.kb 2 _ rfl; have k3 := Sm.cells_of F4.kb 3 _ rfl; have k4 := Sm.cells_of F4.kb 4 _ rfl; have k5 := Sm.cells_of F4.kb 5 _ rfl
    have d0 := Sm.cells_of F4.db 0 _ rfl; have d1 := Sm.cells_of F4.db 1 _ rfl; have d2 := Sm.cells_of F4.db 2 _ rfl; have d3 := Sm.cells_of F4.db 3 _ rfl
    have z0 := Sm.cells_of F4.kr 0 _ rfl; have z1 := Sm.cells_of F4.kr 1 _ rfl; have z2 := Sm.cells_of F4.kr 2 _ rfl; have z3 := Sm.cells_of F4.kr 3 _ rfl; have z4 := Sm.cells_of F4.kr 4 _ rfl; have z5 := Sm.cells_of F4.kr 5 _ rfl
    have y0 := Sm.cells_of F4.dr 0 _ rfl; have y1 := Sm.cells_of F4.dr 1 _ rfl; have y2 := Sm.cells_of F4.dr 2 _ rfl; have y3 := Sm.cells_of F4.dr 3 _ rfl
    have zf0 := Sm.free_of F4.kr 0; have zf1 := Sm.free_of F4.kr 1; have zf2 := Sm.free_of F4.kr 2; have zf3 := Sm.free_of F4.kr 3; have zf4 := Sm.free_of F4.kr 4; have zf5 := Sm.free_of F4.kr 5
    have yf0 := Sm.free_of F4.dr 0; have yf1 := Sm.free_of F4.dr 1; have yf2 := Sm.free_of F4.dr 2; have yf3 := Sm.free_of F4.dr 3
    clear F4
    go_enter Try.func22, Try.ntmps22
    go_upto_region 1 with (fail)
    rw [← HW4.out, ← HN.out]
    go_upto_region 2 with (fail)
    go_region
    have FE := Kp.Fr9.fin HF4.out (.int .i64 fr) (.string tx) (.int .u64 (g : Int)) (.int .i64 sl) (.int .u64 (se : Int)) (.bool true) (.slice sA sn sc) (.slice sB sm sd) (.int .i64 f) (.bool o)
    change Exit.then _ _ _ _ (Kp.sets9 w4 N (.int .i64 fr) (.string tx) (.int .u64 (g : Int)) (.int .i64 sl) (.int .u64 (se : Int)) (.bool true) (.slice sA sn sc) (.slice sB sm sd) (.int .i64 f) (.bool o)).drew
    generalize (Kp.sets9 w4 N (.int .i64 fr) (.string tx) (.int .u64 (g : Int)) (.int .i64 sl) (.int .u64 (se : Int)) (.bool true) (.slice sA sn sc) (.slice sB sm sd) (.int .i64 f) (.bool o)).drew = we at FE ⊢
    have BE := FE.below HB4.out (by have := Kp.Fr9.sz HF4.out; omega)
    have ez0 := Sm.cells_of FE.kr 0 _ rfl; have ez1 := Sm.cells_of FE.kr 1 _ rfl; have ez2 := Sm.cells_of FE.kr 2 _ rfl; have ez3 := Sm.cells_of FE.kr 3 _ rfl; have ez4 := Sm.cells_of FE.kr 4 _ rfl; have ez5 := Sm.cells_of FE.kr 5 _ rfl
    have ey0 := Sm.cells_of FE.dr 0 _ rfl; have ey1 := Sm.cells_of FE.dr 1 _ rfl; have ey2 := Sm.cells_of FE.dr 2 _ rfl; have ey3 := Sm.cells_of FE.dr 3 _ rfl
    have RE := HREF.out _ BE
    have HBE := Lib.hid BE
    clear FE BE 
    go_wp2
    exact bodyPost_ret (v := .tuple #[.agg #[.int .i64 fr, .string tx, .int .u64 (g : Int), .int .i64 sl, .int .u64 (se : Int), .bool true], .agg #[.slice sA sn sc, .slice sB sm sd, .int .i64 f, .bool o], .int .i64 11]) ((results_cct rfl _ _ _).trans (by go_simp)) rfl ⟨_, by rw [EK.out], RE, by rw [← HN.out]; exact HBE.out⟩
  | false =>
    by_cases h400 : 400 < t.size
    · have hki : (400 : Int) < (t.size : Int) := by omega
      have EK : Hid (Kp.kv ⟨fr, kt, g, nx, se, false⟩ = #[.int .i64 fr, .string tx, .int .u64 (g : Int), .int .i64 sl, .int .u64 (se : Int), .bool false]) := by show _ = _; rw [HTX.out, HSL.out]; rfl
      have e : Kp.put ⟨fr, kt, g, nx, se, false⟩ M t.data.toList = (⟨fr, kt, g, nx, se, false⟩, M, 3) := by simp [Kp.put, htl, h400]
      rw [e]
      clear e
      have F4 := HF4.out
      have k0 := Sm.cells_of F4.kb 0 _ rfl; have k1 := Sm.cells_of F4.kb 1 _ rfl; have k2 := Sm.cells_of F4.kb 2 _ rfl; have k3 := Sm.cells_of F4.kb 3 _ rfl; have k4 := Sm.cells_of F4.kb 4 _ rfl; have k5 := Sm.cells_of F4.kb 5 _ rfl
      have d0 := Sm.cells_of F4.db 0 _ rfl; have d1 := Sm.cells_of F4.db 1 _ rfl; have d2 := Sm.cells_of F4.db 2 _ rfl; have d3 := Sm.cells_of F4.db 3 _ rfl
      have z0 := Sm.cells_of F4.kr 0 _ rfl; have z1 := Sm.cells_of F4.kr 1 _ rfl; have z2 := Sm.cells_of F4.kr 2 _ rfl; have z3 := Sm.cells_of F4.kr 3 _ rfl; have z4 := Sm.cells_of F4.kr 4 _ rfl; have z5 := Sm.cells_of F4.kr 5 _ rfl
      have y0 := Sm.cells_of F4.dr 0 _ rfl; have y1 := Sm.cells_of F4.dr 1 _ rfl; have y2 := Sm.cells_of F4.dr 2 _ rfl; have y3 := Sm.cells_of F4.dr 3 _ rfl
      have zf0 := Sm.free_of F4.kr 0; have zf1 := Sm.free_of F4.kr 1; have zf2 := Sm.free_of F4.kr 2; have zf3 := Sm.free_of F4.kr 3; have zf4 := Sm.free_of F4.kr 4; have zf5 := Sm.free_of F4.kr 5
      have yf0 := Sm.free_of F4.dr 0; have yf1 := Sm.free_of F4.dr 1; have yf2 := Sm.free_of F4.dr 2; have yf3 := Sm.free_of F4.dr 3
      clear F4
      go_enter Try.func22, Try.ntmps22
      go_upto_region 1 with (fail)
      rw [← HW4.out, ← HN.out]
      go_upto_region 4 with (fail)
      go_region
      have FE := Kp.Fr9.fin HF4.out (.int .i64 fr) (.string tx) (.int .u64 (g : Int)) (.int .i64 sl) (.int .u64 (se : Int)) (.bool false) (.slice sA sn sc) (.slice sB sm sd) (.int .i64 f) (.bool o)
      change Exit.then _ _ _ _ (Kp.sets9 w4 N (.int .i64 fr) (.string tx) (.int .u64 (g : Int)) (.int .i64 sl) (.int .u64 (se : Int)) (.bool false) (.slice sA sn sc) (.slice sB sm sd) (.int .i64 f) (.bool o)).drew
      generalize (Kp.sets9 w4 N (.int .i64 fr) (.string tx) (.int .u64 (g : Int)) (.int .i64 sl) (.int .u64 (se : Int)) (.bool false) (.slice sA sn sc) (.slice sB sm sd) (.int .i64 f) (.bool o)).drew = we at FE ⊢
      have BE := FE.below HB4.out (by have := Kp.Fr9.sz HF4.out; omega)
      have ez0 := Sm.cells_of FE.kr 0 _ rfl; have ez1 := Sm.cells_of FE.kr 1 _ rfl; have ez2 := Sm.cells_of FE.kr 2 _ rfl; have ez3 := Sm.cells_of FE.kr 3 _ rfl; have ez4 := Sm.cells_of FE.kr 4 _ rfl; have ez5 := Sm.cells_of FE.kr 5 _ rfl
      have ey0 := Sm.cells_of FE.dr 0 _ rfl; have ey1 := Sm.cells_of FE.dr 1 _ rfl; have ey2 := Sm.cells_of FE.dr 2 _ rfl; have ey3 := Sm.cells_of FE.dr 3 _ rfl
      have RE := HREF.out _ BE
      have HBE := Lib.hid BE
      clear FE BE 
      go_wp2
      exact bodyPost_ret (v := .tuple #[.agg #[.int .i64 fr, .string tx, .int .u64 (g : Int), .int .i64 sl, .int .u64 (se : Int), .bool false], .agg #[.slice sA sn sc, .slice sB sm sd, .int .i64 f, .bool o], .int .i64 3]) ((results_cct rfl _ _ _).trans (by go_simp)) rfl ⟨_, by rw [EK.out], RE, by rw [← HN.out]; exact HBE.out⟩
    have h4n : ¬ (400 : Int) < (t.size : Int) := by omega
    by_cases hse : se = 18446744073709551615
    · have hsb : ((se : Int) == 18446744073709551615) = true := beq_iff_eq.2 (by omega)
      have EK : Hid (Kp.kv ⟨fr, kt, g, nx, se, false⟩ = #[.int .i64 fr, .string tx, .int .u64 (g : Int), .int .i64 sl, .int .u64 (se : Int), .bool false]) := by show _ = _; rw [HTX.out, HSL.out]; rfl
      have e : Kp.put ⟨fr, kt, g, nx, se, false⟩ M t.data.toList = (⟨fr, kt, g, nx, se, false⟩, M, 6) := by simp [Kp.put, htl, h400, hse]
      rw [e]
      clear e
      clear hse
      have F4 := HF4.out
      have k0 := Sm.cells_of F4.kb 0 _ rfl; have k1 := Sm.cells_of F4.kb 1 _ rfl; have k2 := Sm.cells_of F4.kb 2 _ rfl; have k3 := Sm.cells_of F4.kb 3 _ rfl; have k4 := Sm.cells_of F4.kb 4 _ rfl; have k5 := Sm.cells_of F4.kb 5 _ rfl
      have d0 := Sm.cells_of F4.db 0 _ rfl; have d1 := Sm.cells_of F4.db 1 _ rfl; have d2 := Sm.cells_of F4.db 2 _ rfl; have d3 := Sm.cells_of F4.db 3 _ rfl
      have z0 := Sm.cells_of F4.kr 0 _ rfl; have z1 := Sm.cells_of F4.kr 1 _ rfl; have z2 := Sm.cells_of F4.kr 2 _ rfl; have z3 := Sm.cells_of F4.kr 3 _ rfl; have z4 := Sm.cells_of F4.kr 4 _ rfl; have z5 := Sm.cells_of F4.kr 5 _ rfl
      have y0 := Sm.cells_of F4.dr 0 _ rfl; have y1 := Sm.cells_of F4.dr 1 _ rfl; have y2 := Sm.cells_of F4.dr 2 _ rfl; have y3 := Sm.cells_of F4.dr 3 _ rfl
      have zf0 := Sm.free_of F4.kr 0; have zf1 := Sm.free_of F4.kr 1; have zf2 := Sm.free_of F4.kr 2; have zf3 := Sm.free_of F4.kr 3; have zf4 := Sm.free_of F4.kr 4; have zf5 := Sm.free_of F4.kr 5
      have yf0 := Sm.free_of F4.dr 0; have yf1 := Sm.free_of F4.dr 1; have yf2 := Sm.free_of F4.dr 2; have yf3 := Sm.free_of F4.dr 3
      clear F4
      go_enter Try.func22, Try.ntmps22
      go_upto_region 1 with (fail)
      rw [← HW4.out, ← HN.out]
      go_upto_region 6 with (fail)
      go_region
      have FE := Kp.Fr9.fin HF4.out (.int .i64 fr) (.string tx) (.int .u64 (g : Int)) (.int .i64 sl) (.int .u64 (se : Int)) (.bool false) (.slice sA sn sc) (.slice sB sm sd) (.int .i64 f) (.bool o)
      change Exit.then _ _ _ _ (Kp.sets9 w4 N (.int .i64 fr) (.string tx) (.int .u64 (g : Int)) (.int .i64 sl) (.int .u64 (se : Int)) (.bool false) (.slice sA sn sc) (.slice sB sm sd) (.int .i64 f) (.bool o)).drew
      generalize (Kp.sets9 w4 N (.int .i64 fr) (.string tx) (.int .u64 (g : Int)) (.int .i64 sl) (.int .u64 (se : Int)) (.bool false) (.slice sA sn sc) (.slice sB sm sd) (.int .i64 f) (.bool o)).drew = we at FE ⊢
      have BE := FE.below HB4.out (by have := Kp.Fr9.sz HF4.out; omega)
      have ez0 := Sm.cells_of FE.kr 0 _ rfl; have ez1 := Sm.cells_of FE.kr 1 _ rfl; have ez2 := Sm.cells_of FE.kr 2 _ rfl; have ez3 := Sm.cells_of FE.kr 3 _ rfl; have ez4 := Sm.cells_of FE.kr 4 _ rfl; have ez5 := Sm.cells_of FE.kr 5 _ rfl
      have ey0 := Sm.cells_of FE.dr 0 _ rfl; have ey1 := Sm.cells_of FE.dr 1 _ rfl; have ey2 := Sm.cells_of FE.dr 2 _ rfl; have ey3 := Sm.cells_of FE.dr 3 _ rfl
      have RE := HREF.out _ BE
      have HBE := Lib.hid BE
      clear FE BE 
      go_wp2
      exact bodyPost_ret (v := .tuple #[.agg #[.int .i64 fr, .string tx, .int .u64 (g : Int), .int .i64 sl, .int .u64 (se : Int), .bool false], .agg #[.slice sA sn sc, .slice sB sm sd, .int .i64 f, .bool o], .int .i64 6]) ((results_cct rfl _ _ _).trans (by go_simp)) rfl ⟨_, by rw [EK.out], RE, by rw [← HN.out]; exact HBE.out⟩
    have hsb : ((se : Int) == 18446744073709551615) = false := beq_eq_false_iff_ne.2 (by omega)
    have EK : Hid (Kp.kv ⟨fr, kt, g, nx, se, true⟩ = #[.int .i64 fr, .string tx, .int .u64 (g : Int), .int .i64 sl, .int .u64 (se : Int), .bool true]) := by show _ = _; rw [HTX.out, HSL.out]; rfl
    obtain ⟨P, hP⟩ : ∃ P, P = Kp.parts t.data.toList := ⟨_, rfl⟩
    obtain ⟨l, hl⟩ : ∃ l, l = Kp.bodies t.data.toList (se + 1) := ⟨_, rfl⟩
    have hll : l.length = P := by rw [hl, hP, Kp.bodies_length]
    have hP1 : 1 ≤ P := by rw [hP]; exact Kp.parts_pos _
    have hP9 : P ≤ 9 := by rw [hP]; exact Kp.parts_le (by omega)
    have hse2 : se < 18446744073709551616 := HF.out.seen
    have hnx : nx < 2 := HF.out.next
    have hfr : 0 ≤ fr ∧ fr + 20 ≤ M.lasts.length := HF.out.at_
    have hlen : M.lasts.length ≤ 4096 := HM.out.n.2
    obtain ⟨b, hb⟩ : ∃ b : Int, b = fr + (nx : Int) * 10 := ⟨_, rfl⟩
    have hbb : 0 ≤ b ∧ b ≤ 4096 := by omega
    have e : Kp.put ⟨fr, kt, g, nx, se, false⟩ M t.data.toList = if (Kp.save M b l).2 = 0 then (⟨fr, t.data.toList, se + 1, 1 - nx, se + 1, false⟩, (Kp.save M b l).1, 0) else (⟨fr, kt, g, nx, se, true⟩, (Kp.save M b l).1, (Kp.save M b l).2) := by
      rw [hb, hl]; simp [Kp.put, htl, h400, hse]
    obtain ⟨R, hR⟩ : ∃ R, R = Kp.put ⟨fr, kt, g, nx, se, false⟩ M t.data.toList := ⟨_, rfl⟩
    rw [← hR]
    have STOPX : Hid (∀ M1 er, er ≠ 0 → Kp.save M b l = (M1, er) → R = (⟨fr, kt, g, nx, se, true⟩, M1, er)) := fun M1 er h1 h2 => by rw [hR, e, h2, if_neg h1]
    have DONEX : Hid (∀ M1, Kp.save M b l = (M1, 0) → R = (⟨fr, t.data.toList, se + 1, 1 - nx, se + 1, false⟩, M1, 0)) := fun M1 h2 => by rw [hR, e, h2, if_pos rfl]
    have EKD : Hid (Kp.kv ⟨fr, t.data.toList, se + 1, 1 - nx, se + 1, false⟩ = #[.int .i64 fr, .string t, .int .u64 ((se + 1 : Nat) : Int), .int .i64 (nx : Int), .int .u64 ((se + 1 : Nat) : Int), .bool false]) := by
      show _ = _
      rw [Kp.kv, show (1 : Int) - ((1 - nx : Nat) : Int) = (nx : Int) by omega]
    have hw1 : IntKind.i64.wrap (1 - sl) = (nx : Int) := by rw [HSL.out, IntWalk.i64_in _ (by omega)]; omega
    have hw2 : IntKind.i64.wrap (10 * (nx : Int)) = 10 * (nx : Int) := IntWalk.i64_in _ (by omega)
    have hw3 : IntKind.i64.wrap (fr + 10 * (nx : Int)) = b := by rw [IntWalk.i64_in _ (by omega)]; omega
    have hwu : IntKind.u64.wrap ((se : Int) + 1) = ((se + 1 : Nat) : Int) := by simp [IntKind.wrap, IntKind.bits, IntKind.signed]; omega
    have SEC : Hid (∀ wx : World, Calls Try.prog 28 #[.string t, .int .u64 ((se + 1 : Nat) : Int)] wx fun e w' => ∃ A c, e = .returned (.slice A P c) ∧ P ≤ c ∧ Kp.StrsAt w' A (Kp.closeds t.data.toList (se + 1)) ∧ (∀ q o, A = some ⟨q, o, none⟩ → wx.heap.size ≤ q) ∧ Below wx.heap.size wx w') := fun wx => by rw [hP]; exact r9Sectors_any wx t (se + 1) ht
    have CLD : Hid (∀ i, i < P → (Kp.closeds t.data.toList (se + 1)).getD i [] = Dk.closed (l.getD i [])) := fun i hi => by
      rw [hl, Kp.closeds, List.getD_eq_getElem?_getD, List.getD_eq_getElem?_getD, List.getElem?_map, List.getElem?_eq_getElem (by rw [Kp.bodies_length, ← hP]; exact hi)]; rfl
    have CLL : Hid ((Kp.closeds t.data.toList (se + 1)).length = P) := by show _ = _; rw [Kp.closeds_length, hP]
    have HLL := Lib.hid hll
    clear e hR hl hP hse hse2 hfr hlen hb hll
    have F4 := HF4.out
    have k0 := Sm.cells_of F4.kb 0 _ rfl; have k1 := Sm.cells_of F4.kb 1 _ rfl; have k2 := Sm.cells_of F4.kb 2 _ rfl; have k3 := Sm.cells_of F4.kb 3 _ rfl; have k4 := Sm.cells_of F4.kb 4 _ rfl; have k5 := Sm.cells_of F4.kb 5 _ rfl
    clear F4
    go_enter Try.func22, Try.ntmps22
    go_upto_region 1 with (fail)
    rw [← HW4.out, ← HN.out]
    go_upto_region 8 with (go_at_call 28; refine (SEC.out _).mono ?_; rintro e w5 ⟨A, c, rfl, hPc, hst, hfr5, kk5⟩)
    obtain ⟨gb, go, rfl, hgs, hgc⟩ := hst
    have hg4 : N + 4 ≤ gb := by have h1 := hfr5 gb go rfl; have h2 := Kp.Fr9.sz HF4.out; omega
    have F5 := HF4.out.low kk5
    have B5 : Below N w w5 := HB4.out.trans (kk5.mono (by have := Kp.Fr9.sz HF4.out; omega))
    have CE0 : Hid (∀ wx, Dk.Turned (fun q => q < N + 4) w5 wx → ∀ i, i < P → wx.cell? ⟨gb, go + i, none⟩ = some (.string ⟨(Dk.closed (l.getD i [])).toArray⟩)) := fun wx tt i hi => by
      rw [← CLD.out i hi, ← hgc i (by rw [CLL.out]; exact hi)]
      simp only [World.cell?, tt.block gb hgs (by omega)]
    clear k0 k1 k2 k3 k4 k5 hgc hfr5 kk5 SEC CLD CLL
    have y5 := Sm.cells_of F5.kb 5 _ rfl
    have yf5 := Sm.free_of F5.kb 5
    go_upto_region 9 with (fail)
    have LD : Kp.Lo9 w w5 (w5.setCell ⟨N, 5, none⟩ (.bool true)) N (fun q => fp q ∨ (N ≤ q ∧ q < N + 4)) #[.int .i64 fr, .string tx, .int .u64 (g : Int), .int .i64 sl, .int .u64 (se : Int), .bool true] #[.slice sA sn sc, .slice sB sm sd, .int .i64 f, .bool o] (.agg #[.slice sA sn sc, .slice sB sm sd, .int .i64 f, .bool o]) M := by
      have oo : ∀ q, q ≠ N → (w5.setCell ⟨N, 5, none⟩ (.bool true)).heap[q]? = w5.heap[q]? := fun q hq => Below.heap_setCell _ ⟨N, 5, none⟩ _ q hq
      have t1 := Kp.turned_set w5 N 5 (.bool true)
      have hs5 := F5.sz
      have r0 : Dk.RefAt w5 (fun q => fp q ∨ (N ≤ q ∧ q < N + 4)) (.agg #[.slice sA sn sc, .slice sB sm sd, .int .i64 f, .bool o]) M := (HR.out.off (fp' := fun q => fp q ∨ (N ≤ q ∧ q < N + 4)) fun q hq e => e.resolve_right (by have := HN.out; omega)).low (by rw [← HN.out]; exact B5)
      exact ⟨⟨Sm.heap_set F5.kb 5 _, (oo _ (by omega)).trans F5.db, (oo _ (by omega)).trans F5.kr, (oo _ (by omega)).trans F5.dr⟩, r0.turned (t1.mono fun i e => .inr (by omega)) fun _ => .inl, fun q e => by
        rcases e with e | e
        · have h1 := HFP.out q e; have h2 := B5.size; have h3 := HN.out; have h4 := t1.size; omega
        · have h4 := t1.size; omega, fun q h1 h2 => .inr ⟨h1, h2⟩, B5.trans (t1.below (fun q e => by omega) (by omega)), t1.mono fun i e => by omega⟩
    have HS5 := Lib.hid F5.sz
    clear y5 yf5 F5 B5
    generalize w5.setCell ⟨N, 5, none⟩ (.bool true) = w6 at *
    go_wp2_with fail
    go_loopw [10] (fun s10 wr => ∃ (i : Nat) (sA : Option Addr) (sn sc : Nat) (sB : Option Addr) (sm sd : Nat) (f : Int) (o : Bool), s10 = .int .i64 i ∧ i ≤ P ∧ (Kp.puts M b (l.take i)).2 = 0 ∧ Kp.Lo9 w w5 wr N (fun q => fp q ∨ (N ≤ q ∧ q < N + 4)) #[.int .i64 fr, .string tx, .int .u64 (g : Int), .int .i64 sl, .int .u64 (se : Int), .bool true] #[.slice sA sn sc, .slice sB sm sd, .int .i64 f, .bool o] (.agg #[.slice sA sn sc, .slice sB sm sd, .int .i64 f, .bool o]) (Kp.puts M b (l.take i)).1) (fun s10 _ => P - (intOf s10).toNat)
    case atStart => exact ⟨0, sA, sn, sc, sB, sm, sd, f, o, rfl, Nat.zero_le _, rfl, LD⟩
    case round =>
      clear LD
      obtain ⟨i, sA, sn, sc, sB, sm, sd, f, o, rfl, hi, hz0, LD0⟩ := hrel
      have HZ0 := Lib.hid hz0
      obtain ⟨X, hX⟩ : ∃ X, X = Kp.puts M b (l.take i) := ⟨_, rfl⟩
      have hok : X.1.Ok := by rw [hX]; exact Kp.puts_ok _ _ _ HM.out
      have hwt : Dk.waits X.1 ≤ 1099511627775 := by
        have h1 := Kp.waits_puts (l.take i) M b
        have h2 : (l.take i).length ≤ i := List.length_take_le _ _
        have h3 := HQ.out
        rw [hX]; omega
      rw [← hX] at LD0
      have HX := Lib.hid hX
      have HOK := Lib.hid hok
      have HWT := Lib.hid hwt
      have LD := LD0.low ((Below.refl _ wr).drew)
      clear hX hok hwt hz0
      by_cases hlt : i < P
      · have hki : (i : Int) < (P : Int) := by omega
        have hsuc : IntKind.i64.wrap ((i : Int) + 1) = ((i + 1 : Nat) : Int) := by simp [IntKind.wrap, IntKind.bits, IntKind.signed]; omega
        have hw4 : IntKind.i64.wrap (b + (i : Int)) = b + (i : Int) := IntWalk.i64_in _ (by omega)
        obtain ⟨sec, hsec⟩ : ∃ b : ByteArray, b = ⟨(Dk.closed (l.getD i [])).toArray⟩ := ⟨_, rfl⟩
        have hsl2 : sec.data.toList = Dk.closed (l.getD i []) := by rw [hsec]
        have CE : Hid (∀ wx, Dk.Turned (fun q => q < N + 4) w5 wx → wx.cell? ⟨gb, go + i, none⟩ = some (.string sec)) := fun wx tt => by rw [hsec]; exact CE0.out wx tt i hlt
        obtain ⟨W1, hW1⟩ : ∃ x, x = Dk.write X.1 (b + (i : Int)) (Dk.closed (l.getD i [])) := ⟨_, rfl⟩
        obtain ⟨M1, er⟩ := W1
        have NEXT : Hid (er = 0 → Kp.puts M b (l.take (i + 1)) = (M1, 0)) := fun h0 => by
          rw [Pt.puts_take (by rw [HLL.out]; exact hlt) HZ0.out, ← HX.out, ← hW1]; simp [h0]
        have STOP : Hid (er ≠ 0 → R = (⟨fr, kt, g, nx, se, true⟩, M1, er)) := fun h0 => STOPX.out M1 er h0 (by
          have e1 : Kp.puts M b (l.take (i + 1)) = (M1, er) := by rw [Pt.puts_take (by rw [HLL.out]; exact hlt) HZ0.out, ← HX.out, ← hW1]; simp [h0]
          rw [Pt.puts_stopped (i := i) (by rw [e1]; exact h0), e1])
        obtain ⟨bl, hbl⟩ : ∃ q : List Value, q = [.slice sA sn sc, .slice sB sm sd, .int .i64 f, .bool o] := ⟨_, rfl⟩
        have hba : bl.toArray = #[.slice sA sn sc, .slice sB sm sd, .int .i64 f, .bool o] := by rw [hbl]
        have hbl4 : bl.length = 4 := by rw [hbl]; rfl
        have WR : Hid (∀ wx fpx, Dk.RefAt wx fpx (.agg bl.toArray) X.1 → (∀ q, fpx q → q < wx.heap.size) → Calls Try.prog 14 #[.agg bl.toArray, .int .i64 (b + (i : Int)), .string sec] wx fun e w' => ∃ v', e = .returned (.tuple #[v', .int .i64 er]) ∧ Dk.RefAt w' fpx v' M1 ∧ Below wx.heap.size wx w') := fun wx fpx h1 h2 => by
          have := r7Write_any wx fpx _ X.1 HOK.out h1 h2 HWT.out (b + (i : Int)) sec
          rw [hsl2, ← hW1] at this
          exact this
        rw [← hba] at LD
        have HBA := Lib.hid hba
        clear LD0 hW1 hba hbl hsec hsl2
        go_upto_region 12 with (fail)
        refine wp_region_held_drew (S := (fun w' => w'.heap[N]? = some (.cells #[.int .i64 fr, .string tx, .int .u64 (g : Int), .int .i64 sl, .int .u64 (se : Int), .bool true] 39 (0, 0)) ∧ w'.heap[N + 1]? = some (.cells bl.toArray 32 (0, 0)) ∧ w'.cell? ⟨gb, go + i, none⟩ = some (.string sec))) (by kernel_rfl) ⟨LD.fr.kb, LD.fr.db, CE.out _ LD.tu⟩ (fun hHeld => ?_)
        generalize wr.drew = wd at *
        refine wpAnyH_take (i := 0) (oi := ⟨some 41, _, _, _, _, _⟩) (v := .agg bl.toArray) rfl (by kernel_rfl) (by kernel_rfl) (by kernel_rfl) (fun _ _ _ h => h) (yieldsIf_load_mid (by rfl) _ _ rfl _ _ rfl bl _ (fun w hS => Sm.range_row hS.2.1) Try.underlying32 rfl (Kp.info_dsk9 hbl4)) (by assumption) ?_
        simp only [Act.put, List.setIfInBounds_toArray, List.set_cons_zero, List.set_cons_succ]
        refine wpAnyH_take (i := 1) (oi := ⟨some 42, _, _, _, _, _⟩) (v := .pointer (some ⟨N, 0, none⟩)) rfl (by kernel_rfl) (by kernel_rfl) (by kernel_rfl) (fun _ _ _ h => h) (Or.inl ⟨by rfl, ?_⟩) (by assumption) ?_
        · intro w hSw; (try dsimp only at hSw); go_simp
        simp only [Act.put, List.setIfInBounds_toArray, List.set_cons_zero, List.set_cons_succ]
        refine wpAnyH_take (i := 2) (oi := ⟨some 43, _, _, _, _, _⟩) (v := .int .i64 fr) rfl (by kernel_rfl) (by kernel_rfl) (by kernel_rfl) (fun _ _ _ h => h) (Or.inl ⟨by rfl, ?_⟩) (by assumption) ?_
        · intro w hSw; (try dsimp only at hSw); have hh := Sm.cells_of hSw.1 0 _ rfl; go_simp
        simp only [Act.put, List.setIfInBounds_toArray, List.set_cons_zero, List.set_cons_succ]
        refine wpAnyH_take (i := 3) (oi := ⟨some 44, _, _, _, _, _⟩) (v := .pointer (some ⟨N, 3, none⟩)) rfl (by kernel_rfl) (by kernel_rfl) (by kernel_rfl) (fun _ _ _ h => h) (Or.inl ⟨by rfl, ?_⟩) (by assumption) ?_
        · intro w hSw; (try dsimp only at hSw); go_simp
        simp only [Act.put, List.setIfInBounds_toArray, List.set_cons_zero, List.set_cons_succ]
        refine wpAnyH_take (i := 4) (oi := ⟨some 45, _, _, _, _, _⟩) (v := .int .i64 sl) rfl (by kernel_rfl) (by kernel_rfl) (by kernel_rfl) (fun _ _ _ h => h) (Or.inl ⟨by rfl, ?_⟩) (by assumption) ?_
        · intro w hSw; (try dsimp only at hSw); have hh := Sm.cells_of hSw.1 3 _ rfl; go_simp
        simp only [Act.put, List.setIfInBounds_toArray, List.set_cons_zero, List.set_cons_succ]
        refine wpAnyH_take (i := 5) (oi := ⟨some 46, _, _, _, _, _⟩) (v := .int .i64 (nx : Int)) rfl (by kernel_rfl) (by kernel_rfl) (by kernel_rfl) (fun _ _ _ h => h) (Or.inl ⟨by rfl, ?_⟩) (by assumption) ?_
        · intro w hSw; (try dsimp only at hSw); go_simp
        simp only [Act.put, List.setIfInBounds_toArray, List.set_cons_zero, List.set_cons_succ]
        refine wpAnyH_take (i := 6) (oi := ⟨some 47, _, _, _, _, _⟩) (v := .int .i64 (10 * (nx : Int))) rfl (by kernel_rfl) (by kernel_rfl) (by kernel_rfl) (fun _ _ _ h => h) (Or.inl ⟨by rfl, ?_⟩) (by assumption) ?_
        · intro w hSw; (try dsimp only at hSw); go_simp
        simp only [Act.put, List.setIfInBounds_toArray, List.set_cons_zero, List.set_cons_succ]
        refine wpAnyH_take (i := 7) (oi := ⟨some 48, _, _, _, _, _⟩) (v := .int .i64 b) rfl (by kernel_rfl) (by kernel_rfl) (by kernel_rfl) (fun _ _ _ h => h) (Or.inl ⟨by rfl, ?_⟩) (by assumption) ?_
        · intro w hSw; (try dsimp only at hSw); go_simp
        simp only [Act.put, List.setIfInBounds_toArray, List.set_cons_zero, List.set_cons_succ]
        refine wpAnyH_take (i := 8) (oi := ⟨some 49, _, _, _, _, _⟩) (v := .int .i64 (i : Int)) rfl (by kernel_rfl) (by kernel_rfl) (by kernel_rfl) (fun _ _ _ h => h) (Or.inl ⟨by rfl, ?_⟩) (by assumption) ?_
        · intro w hSw; (try dsimp only at hSw); go_simp
        simp only [Act.put, List.setIfInBounds_toArray, List.set_cons_zero, List.set_cons_succ]
        refine wpAnyH_take (i := 9) (oi := ⟨some 50, _, _, _, _, _⟩) (v := .int .i64 (b + (i : Int))) rfl (by kernel_rfl) (by kernel_rfl) (by kernel_rfl) (fun _ _ _ h => h) (Or.inl ⟨by rfl, ?_⟩) (by assumption) ?_
        · intro w hSw; (try dsimp only at hSw); go_simp
        simp only [Act.put, List.setIfInBounds_toArray, List.set_cons_zero, List.set_cons_succ]
        refine wpAnyH_take (i := 10) (oi := ⟨some 51, _, _, _, _, _⟩) (v := .slice (some ⟨gb, go, none⟩) P c) rfl (by kernel_rfl) (by kernel_rfl) (by kernel_rfl) (fun _ _ _ h => h) (Or.inl ⟨by rfl, ?_⟩) (by assumption) ?_
        · intro w hSw; (try dsimp only at hSw); go_simp
        simp only [Act.put, List.setIfInBounds_toArray, List.set_cons_zero, List.set_cons_succ]
        refine wpAnyH_take (i := 11) (oi := ⟨some 52, _, _, _, _, _⟩) (v := .int .i64 (i : Int)) rfl (by kernel_rfl) (by kernel_rfl) (by kernel_rfl) (fun _ _ _ h => h) (Or.inl ⟨by rfl, ?_⟩) (by assumption) ?_
        · intro w hSw; (try dsimp only at hSw); go_simp
        simp only [Act.put, List.setIfInBounds_toArray, List.set_cons_zero, List.set_cons_succ]
        refine wpAnyH_take (i := 12) (oi := ⟨some 53, _, _, _, _, _⟩) (v := .pointer (some ⟨gb, go + i, none⟩)) rfl (by kernel_rfl) (by kernel_rfl) (by kernel_rfl) (fun _ _ _ h => h) (Or.inl ⟨by rfl, ?_⟩) (by assumption) ?_
        · intro w hSw; (try dsimp only at hSw); go_simp
        simp only [Act.put, List.setIfInBounds_toArray, List.set_cons_zero, List.set_cons_succ]
        refine wpAnyH_take (i := 13) (oi := ⟨some 54, _, _, _, _, _⟩) (v := .string sec) rfl (by kernel_rfl) (by kernel_rfl) (by kernel_rfl) (fun _ _ _ h => h) (Or.inl ⟨by rfl, ?_⟩) (by assumption) ?_
        · intro w hSw; (try dsimp only at hSw); have hh := hSw.2.2; go_simp
        simp only [Act.put, List.setIfInBounds_toArray, List.set_cons_zero, List.set_cons_succ]
        refine wpAnyH_ready (rs := [14, 18]) (by kernel_rfl) (by simp) ?_
        refine (AllReadyH.cons (o := ⟨some 55, _, _, _, _, _⟩) rfl (fun K hK => ?_) (AllReadyH.cons (o := ⟨some 11, _, _, _, _, _⟩) rfl (fun K hK => ?_) AllReadyH.nil))
        · go_simp
          refine (WR.out _ _ LD.ref LD.lt).mono ?_
          rintro e u1 ⟨vn, rfl, href, k1⟩
          obtain ⟨tA, tn, tc, tB, tm, td, f2, o2, rfl⟩ := href.quad
          have L1 := LD.write href k1
          refine hK.out _ _ ⟨L1.fr.kb, L1.fr.db, CE.out _ L1.tu⟩ (fun hHeld => ?_)
          clear hK K
          refine wpAnyH_take (i := 15) (oi := ⟨some 40, _, _, _, _, _⟩) (v := .tuple #[.agg #[.slice tA tn tc, .slice tB tm td, .int .i64 f2, .bool o2], .int .i64 er]) rfl (by kernel_rfl) (by kernel_rfl) (by kernel_rfl) (fun _ _ _ h => h) (Or.inl ⟨by rfl, ?_⟩) (by assumption) ?_
          · intro w hSw; (try dsimp only at hSw); go_simp
          simp only [Act.put, List.setIfInBounds_toArray, List.set_cons_zero, List.set_cons_succ]
          refine wpAnyH_take (i := 16) (oi := ⟨some 56, _, _, _, _, _⟩) (v := .agg #[.slice tA tn tc, .slice tB tm td, .int .i64 f2, .bool o2]) rfl (by kernel_rfl) (by kernel_rfl) (by kernel_rfl) (fun _ _ _ h => h) (Or.inl ⟨by rfl, ?_⟩) (by assumption) ?_
          · intro w hSw; (try dsimp only at hSw); go_simp
          simp only [Act.put, List.setIfInBounds_toArray, List.set_cons_zero, List.set_cons_succ]
          refine wpAnyH_take (i := 17) (oi := ⟨some 57, _, _, _, _, _⟩) (v := .int .i64 er) rfl (by kernel_rfl) (by kernel_rfl) (by kernel_rfl) (fun _ _ _ h => h) (Or.inl ⟨by rfl, ?_⟩) (by assumption) ?_
          · intro w hSw; (try dsimp only at hSw); go_simp
          simp only [Act.put, List.setIfInBounds_toArray, List.set_cons_zero, List.set_cons_succ]
          refine wpAnyH_ready (rs := [18]) (by kernel_rfl) (by simp) ?_
          refine (AllReadyH.cons (o := ⟨some 11, _, _, _, _, _⟩) rfl (fun K hK => ?_) AllReadyH.nil)
          rw [if_pos (by simp [Region.wanted])]
          go_simp
          have pQ := heap_alloc_new u1 (.cells #[.slice none 0 0, .slice none 0 0, .int .i64 0, .bool false] 32)
          have L2 := L1.alloc (.cells #[.slice none 0 0, .slice none 0 0, .int .i64 0, .bool false] 32)
          have hQ5 : w5.heap.size ≤ u1.heap.size := L1.tu.size
          have hQ4 : N + 4 ≤ u1.heap.size := L1.fr.sz
          obtain ⟨Q, hQ⟩ : ∃ Q, Q = u1.heap.size := ⟨_, rfl⟩
          rw [← hQ] at pQ L2 hQ5 hQ4 ⊢
          clear hQ
          generalize u1.alloc (.cells #[.slice none 0 0, .slice none 0 0, .int .i64 0, .bool false] 32) = ux at *
          refine hK.out _ _ ⟨L2.fr.kb, L2.fr.db, CE.out _ L2.tu⟩ (fun hHeld => ?_)
          clear hK K
          refine wpAnyH_ready (rs := [19]) (by kernel_rfl) (by simp) ?_
          refine (AllReadyH.cons (o := ⟨none, _, _, _, _, _⟩) rfl (fun K hK => ?_) AllReadyH.nil)
          have x0 := Sm.cells_of pQ 0 _ rfl
          have x1 := Sm.cells_of pQ 1 _ rfl
          have x2 := Sm.cells_of pQ 2 _ rfl
          have x3 := Sm.cells_of pQ 3 _ rfl
          have f0 := Sm.free_of pQ 0
          have f1 := Sm.free_of pQ 1
          have f2' := Sm.free_of pQ 2
          have f3 := Sm.free_of pQ 3
          go_simp
          have L3 := (L2.setQ hQ5 hQ4 (.inr rfl) (.slice tA tn tc) (.slice tB tm td) (.int .i64 f2) (.bool o2))
          have p3 := Dk.set4 pQ rfl (.slice tA tn tc) (.slice tB tm td) (.int .i64 f2) (.bool o2)
          clear x0 x1 x2 x3 f0 f1 f2' f3
          generalize ((((ux.setCell ⟨Q, 0, none⟩ (.slice tA tn tc)).setCell ⟨Q, 1, none⟩ (.slice tB tm td)).setCell ⟨Q, 2, none⟩ (.int .i64 f2)).setCell ⟨Q, 3, none⟩ (.bool o2)) = u3 at *
          refine hK.out _ _ ⟨L3.fr.kb, L3.fr.db, CE.out _ L3.tu⟩ (fun hHeld => ?_)
          clear hK K
          refine wpAnyH_take (i := 20) (oi := ⟨some 12, _, _, _, _, _⟩) (v := .int .i64 er) rfl (by kernel_rfl) (by kernel_rfl) (by kernel_rfl) (fun _ _ _ h => h) (Or.inl ⟨by rfl, ?_⟩) (by assumption) ?_
          · intro w hSw; (try dsimp only at hSw); go_simp
          simp only [Act.put, List.setIfInBounds_toArray, List.set_cons_zero, List.set_cons_succ]
          refine wpAnyH_done (by kernel_rfl) ?_ _
          clear hHeld
          rw [HBA.out] at L3
          have L4 := (L3.setD rfl (.slice tA tn tc) (.slice tB tm td) (.int .i64 f2) (.bool o2)).off (fun q e => .inl e) LD.own
          have x0 := Sm.cells_of p3 0 _ rfl; have x1 := Sm.cells_of p3 1 _ rfl; have x2 := Sm.cells_of p3 2 _ rfl; have x3 := Sm.cells_of p3 3 _ rfl
          have y0 := Sm.cells_of L3.fr.db 0 _ rfl; have y1 := Sm.cells_of L3.fr.db 1 _ rfl; have y2 := Sm.cells_of L3.fr.db 2 _ rfl; have y3 := Sm.cells_of L3.fr.db 3 _ rfl
          have e0 := Sm.free_of L3.fr.db 0; have e1 := Sm.free_of L3.fr.db 1; have e2 := Sm.free_of L3.fr.db 2; have e3 := Sm.free_of L3.fr.db 3
          have H4 := Lib.hid L4
          clear L1 L2 L3 L4 pQ p3 LD
          go_upto_region 14 with (fail)
          clear x0 x1 x2 x3 y0 y1 y2 y3 e0 e1 e2 e3
          have L4 := H4.out
          clear H4
          generalize ((((u3.setCell ⟨N + 1, 0, none⟩ (.slice tA tn tc)).setCell ⟨N + 1, 1, none⟩ (.slice tB tm td)).setCell ⟨N + 1, 2, none⟩ (.int .i64 f2)).setCell ⟨N + 1, 3, none⟩ (.bool o2)) = u4 at *
          have H4 := Lib.hid L4
          by_cases hz : er = 0
          · have hzb : (er == 0) = true := beq_iff_eq.2 hz
            clear L4
            have NX := Lib.hid (NEXT.out hz)
            subst hz
            go_wp2
            go_roundw
            case rel => exact ⟨i + 1, tA, tn, tc, tB, tm, td, f2, o2, rfl, hlt, by rw [NX.out], by rw [NX.out]; exact H4.out⟩
            case measure => simp [intOf]; omega
          · have hzb : (er == 0) = false := beq_eq_false_iff_ne.2 hz
            have ST := Lib.hid (STOP.out hz)
            have F4 := L4.fr
            have k0 := Sm.cells_of F4.kb 0 _ rfl; have k1 := Sm.cells_of F4.kb 1 _ rfl; have k2 := Sm.cells_of F4.kb 2 _ rfl; have k3 := Sm.cells_of F4.kb 3 _ rfl; have k4 := Sm.cells_of F4.kb 4 _ rfl; have k5 := Sm.cells_of F4.kb 5 _ rfl
            have d0 := Sm.cells_of F4.db 0 _ rfl; have d1 := Sm.cells_of F4.db 1 _ rfl; have d2 := Sm.cells_of F4.db 2 _ rfl; have d3 := Sm.cells_of F4.db 3 _ rfl
            have z0 := Sm.cells_of F4.kr 0 _ rfl; have z1 := Sm.cells_of F4.kr 1 _ rfl; have z2 := Sm.cells_of F4.kr 2 _ rfl; have z3 := Sm.cells_of F4.kr 3 _ rfl; have z4 := Sm.cells_of F4.kr 4 _ rfl; have z5 := Sm.cells_of F4.kr 5 _ rfl
            have y0 := Sm.cells_of F4.dr 0 _ rfl; have y1 := Sm.cells_of F4.dr 1 _ rfl; have y2 := Sm.cells_of F4.dr 2 _ rfl; have y3 := Sm.cells_of F4.dr 3 _ rfl
            have zf0 := Sm.free_of F4.kr 0; have zf1 := Sm.free_of F4.kr 1; have zf2 := Sm.free_of F4.kr 2; have zf3 := Sm.free_of F4.kr 3; have zf4 := Sm.free_of F4.kr 4; have zf5 := Sm.free_of F4.kr 5
            have yf0 := Sm.free_of F4.dr 0; have yf1 := Sm.free_of F4.dr 1; have yf2 := Sm.free_of F4.dr 2; have yf3 := Sm.free_of F4.dr 3
            clear F4 L4
            go_upto_region 15 with (fail)
            go_region
            have FE := Kp.Fr9.fin H4.out.fr (.int .i64 fr) (.string tx) (.int .u64 (g : Int)) (.int .i64 sl) (.int .u64 (se : Int)) (.bool true) (.slice tA tn tc) (.slice tB tm td) (.int .i64 f2) (.bool o2)
            change Exit.then _ _ _ _ (Kp.sets9 u4 N (.int .i64 fr) (.string tx) (.int .u64 (g : Int)) (.int .i64 sl) (.int .u64 (se : Int)) (.bool true) (.slice tA tn tc) (.slice tB tm td) (.int .i64 f2) (.bool o2)).drew
            generalize (Kp.sets9 u4 N (.int .i64 fr) (.string tx) (.int .u64 (g : Int)) (.int .i64 sl) (.int .u64 (se : Int)) (.bool true) (.slice tA tn tc) (.slice tB tm td) (.int .i64 f2) (.bool o2)).drew = we at FE ⊢
            have BE := FE.below H4.out.bel (by have := Kp.Fr9.sz H4.out.fr; omega)
            have ez0 := Sm.cells_of FE.kr 0 _ rfl; have ez1 := Sm.cells_of FE.kr 1 _ rfl; have ez2 := Sm.cells_of FE.kr 2 _ rfl; have ez3 := Sm.cells_of FE.kr 3 _ rfl; have ez4 := Sm.cells_of FE.kr 4 _ rfl; have ez5 := Sm.cells_of FE.kr 5 _ rfl
            have ey0 := Sm.cells_of FE.dr 0 _ rfl; have ey1 := Sm.cells_of FE.dr 1 _ rfl; have ey2 := Sm.cells_of FE.dr 2 _ rfl; have ey3 := Sm.cells_of FE.dr 3 _ rfl
            have RE := show Dk.RefAt we fp (.agg #[.slice tA tn tc, .slice tB tm td, .int .i64 f2, .bool o2]) R.2.1 from (by rw [ST.out]; exact (H4.out.ref.turned (FE.tu.mono fun i e => H4.out.own i (by omega) (by omega)) fun _ => .inl).off (fun q hq e => .inl e))
            have HBE := Lib.hid BE
            clear FE BE 
            go_wp2
            exact bodyPost_ret (v := .tuple #[.agg #[.int .i64 fr, .string tx, .int .u64 (g : Int), .int .i64 sl, .int .u64 (se : Int), .bool true], .agg #[.slice tA tn tc, .slice tB tm td, .int .i64 f2, .bool o2], .int .i64 er]) ((results_cct rfl _ _ _).trans (by go_simp)) rfl ⟨_, by rw [ST.out]; show _ = Ending.returned (.tuple #[.agg (Kp.kv _), _, _]); rw [EK.out], RE, by rw [← HN.out]; exact HBE.out⟩
        · rw [if_pos (by simp [Region.wanted])]
          go_simp
          have pQ1 := heap_alloc_new wd (.cells #[.slice none 0 0, .slice none 0 0, .int .i64 0, .bool false] 32)
          have L1 := LD.alloc (.cells #[.slice none 0 0, .slice none 0 0, .int .i64 0, .bool false] 32)
          have hQ5 : w5.heap.size ≤ wd.heap.size := LD.tu.size
          have hQ4 : N + 4 ≤ wd.heap.size := LD.fr.sz
          obtain ⟨Q, hQ⟩ : ∃ Q, Q = wd.heap.size := ⟨_, rfl⟩
          rw [← hQ] at pQ1 L1 hQ5 hQ4 ⊢
          clear hQ
          generalize wd.alloc (.cells #[.slice none 0 0, .slice none 0 0, .int .i64 0, .bool false] 32) = u1 at *
          refine hK.out _ _ ⟨L1.fr.kb, L1.fr.db, CE.out _ L1.tu⟩ (fun hHeld => ?_)
          clear hK K
          refine wpAnyH_ready (rs := [14]) (by kernel_rfl) (by simp) ?_
          refine (AllReadyH.cons (o := ⟨some 55, _, _, _, _, _⟩) rfl (fun K hK => ?_) AllReadyH.nil)
          go_simp
          refine (WR.out _ _ L1.ref L1.lt).mono ?_
          rintro e ux ⟨vn, rfl, href, k1⟩
          obtain ⟨tA, tn, tc, tB, tm, td, f2, o2, rfl⟩ := href.quad
          have L2 := L1.write href k1
          have pQ := (k1.block Q (Sm.lt_of pQ1)).trans pQ1
          refine hK.out _ _ ⟨L2.fr.kb, L2.fr.db, CE.out _ L2.tu⟩ (fun hHeld => ?_)
          clear hK K
          refine wpAnyH_take (i := 15) (oi := ⟨some 40, _, _, _, _, _⟩) (v := .tuple #[.agg #[.slice tA tn tc, .slice tB tm td, .int .i64 f2, .bool o2], .int .i64 er]) rfl (by kernel_rfl) (by kernel_rfl) (by kernel_rfl) (fun _ _ _ h => h) (Or.inl ⟨by rfl, ?_⟩) (by assumption) ?_
          · intro w hSw; (try dsimp only at hSw); go_simp
          simp only [Act.put, List.setIfInBounds_toArray, List.set_cons_zero, List.set_cons_succ]
          refine wpAnyH_take (i := 16) (oi := ⟨some 56, _, _, _, _, _⟩) (v := .agg #[.slice tA tn tc, .slice tB tm td, .int .i64 f2, .bool o2]) rfl (by kernel_rfl) (by kernel_rfl) (by kernel_rfl) (fun _ _ _ h => h) (Or.inl ⟨by rfl, ?_⟩) (by assumption) ?_
          · intro w hSw; (try dsimp only at hSw); go_simp
          simp only [Act.put, List.setIfInBounds_toArray, List.set_cons_zero, List.set_cons_succ]
          refine wpAnyH_take (i := 17) (oi := ⟨some 57, _, _, _, _, _⟩) (v := .int .i64 er) rfl (by kernel_rfl) (by kernel_rfl) (by kernel_rfl) (fun _ _ _ h => h) (Or.inl ⟨by rfl, ?_⟩) (by assumption) ?_
          · intro w hSw; (try dsimp only at hSw); go_simp
          simp only [Act.put, List.setIfInBounds_toArray, List.set_cons_zero, List.set_cons_succ]
          refine wpAnyH_ready (rs := [19]) (by kernel_rfl) (by simp) ?_
          refine (AllReadyH.cons (o := ⟨none, _, _, _, _, _⟩) rfl (fun K hK => ?_) AllReadyH.nil)
          have x0 := Sm.cells_of pQ 0 _ rfl
          have x1 := Sm.cells_of pQ 1 _ rfl
          have x2 := Sm.cells_of pQ 2 _ rfl
          have x3 := Sm.cells_of pQ 3 _ rfl
          have f0 := Sm.free_of pQ 0
          have f1 := Sm.free_of pQ 1
          have f2' := Sm.free_of pQ 2
          have f3 := Sm.free_of pQ 3
          go_simp
          have L3 := (L2.setQ hQ5 hQ4 (.inr rfl) (.slice tA tn tc) (.slice tB tm td) (.int .i64 f2) (.bool o2))
          have p3 := Dk.set4 pQ rfl (.slice tA tn tc) (.slice tB tm td) (.int .i64 f2) (.bool o2)
          clear x0 x1 x2 x3 f0 f1 f2' f3
          generalize ((((ux.setCell ⟨Q, 0, none⟩ (.slice tA tn tc)).setCell ⟨Q, 1, none⟩ (.slice tB tm td)).setCell ⟨Q, 2, none⟩ (.int .i64 f2)).setCell ⟨Q, 3, none⟩ (.bool o2)) = u3 at *
          refine hK.out _ _ ⟨L3.fr.kb, L3.fr.db, CE.out _ L3.tu⟩ (fun hHeld => ?_)
          clear hK K
          refine wpAnyH_take (i := 20) (oi := ⟨some 12, _, _, _, _, _⟩) (v := .int .i64 er) rfl (by kernel_rfl) (by kernel_rfl) (by kernel_rfl) (fun _ _ _ h => h) (Or.inl ⟨by rfl, ?_⟩) (by assumption) ?_
          · intro w hSw; (try dsimp only at hSw); go_simp
          simp only [Act.put, List.setIfInBounds_toArray, List.set_cons_zero, List.set_cons_succ]
          refine wpAnyH_done (by kernel_rfl) ?_ _
          clear hHeld
          rw [HBA.out] at L3
          have L4 := (L3.setD rfl (.slice tA tn tc) (.slice tB tm td) (.int .i64 f2) (.bool o2)).off (fun q e => .inl e) LD.own
          have x0 := Sm.cells_of p3 0 _ rfl; have x1 := Sm.cells_of p3 1 _ rfl; have x2 := Sm.cells_of p3 2 _ rfl; have x3 := Sm.cells_of p3 3 _ rfl
          have y0 := Sm.cells_of L3.fr.db 0 _ rfl; have y1 := Sm.cells_of L3.fr.db 1 _ rfl; have y2 := Sm.cells_of L3.fr.db 2 _ rfl; have y3 := Sm.cells_of L3.fr.db 3 _ rfl
          have e0 := Sm.free_of L3.fr.db 0; have e1 := Sm.free_of L3.fr.db 1; have e2 := Sm.free_of L3.fr.db 2; have e3 := Sm.free_of L3.fr.db 3
          have H4 := Lib.hid L4
          clear L1 L2 L3 L4 pQ p3 LD
          go_upto_region 14 with (fail)
          clear x0 x1 x2 x3 y0 y1 y2 y3 e0 e1 e2 e3
          have L4 := H4.out
          clear H4
          generalize ((((u3.setCell ⟨N + 1, 0, none⟩ (.slice tA tn tc)).setCell ⟨N + 1, 1, none⟩ (.slice tB tm td)).setCell ⟨N + 1, 2, none⟩ (.int .i64 f2)).setCell ⟨N + 1, 3, none⟩ (.bool o2)) = u4 at *
          have H4 := Lib.hid L4
          by_cases hz : er = 0
          · have hzb : (er == 0) = true := beq_iff_eq.2 hz
            clear L4
            have NX := Lib.hid (NEXT.out hz)
            subst hz
            go_wp2
            go_roundw
            case rel => exact ⟨i + 1, tA, tn, tc, tB, tm, td, f2, o2, rfl, hlt, by rw [NX.out], by rw [NX.out]; exact H4.out⟩
            case measure => simp [intOf]; omega
          · have hzb : (er == 0) = false := beq_eq_false_iff_ne.2 hz
            have ST := Lib.hid (STOP.out hz)
            have F4 := L4.fr
            have k0 := Sm.cells_of F4.kb 0 _ rfl; have k1 := Sm.cells_of F4.kb 1 _ rfl; have k2 := Sm.cells_of F4.kb 2 _ rfl; have k3 := Sm.cells_of F4.kb 3 _ rfl; have k4 := Sm.cells_of F4.kb 4 _ rfl; have k5 := Sm.cells_of F4.kb 5 _ rfl
            have d0 := Sm.cells_of F4.db 0 _ rfl; have d1 := Sm.cells_of F4.db 1 _ rfl; have d2 := Sm.cells_of F4.db 2 _ rfl; have d3 := Sm.cells_of F4.db 3 _ rfl
            have z0 := Sm.cells_of F4.kr 0 _ rfl; have z1 := Sm.cells_of F4.kr 1 _ rfl; have z2 := Sm.cells_of F4.kr 2 _ rfl; have z3 := Sm.cells_of F4.kr 3 _ rfl; have z4 := Sm.cells_of F4.kr 4 _ rfl; have z5 := Sm.cells_of F4.kr 5 _ rfl
            have y0 := Sm.cells_of F4.dr 0 _ rfl; have y1 := Sm.cells_of F4.dr 1 _ rfl; have y2 := Sm.cells_of F4.dr 2 _ rfl; have y3 := Sm.cells_of F4.dr 3 _ rfl
            have zf0 := Sm.free_of F4.kr 0; have zf1 := Sm.free_of F4.kr 1; have zf2 := Sm.free_of F4.kr 2; have zf3 := Sm.free_of F4.kr 3; have zf4 := Sm.free_of F4.kr 4; have zf5 := Sm.free_of F4.kr 5
            have yf0 := Sm.free_of F4.dr 0; have yf1 := Sm.free_of F4.dr 1; have yf2 := Sm.free_of F4.dr 2; have yf3 := Sm.free_of F4.dr 3
            clear F4 L4
            go_upto_region 15 with (fail)
            go_region
            have FE := Kp.Fr9.fin H4.out.fr (.int .i64 fr) (.string tx) (.int .u64 (g : Int)) (.int .i64 sl) (.int .u64 (se : Int)) (.bool true) (.slice tA tn tc) (.slice tB tm td) (.int .i64 f2) (.bool o2)
            change Exit.then _ _ _ _ (Kp.sets9 u4 N (.int .i64 fr) (.string tx) (.int .u64 (g : Int)) (.int .i64 sl) (.int .u64 (se : Int)) (.bool true) (.slice tA tn tc) (.slice tB tm td) (.int .i64 f2) (.bool o2)).drew
            generalize (Kp.sets9 u4 N (.int .i64 fr) (.string tx) (.int .u64 (g : Int)) (.int .i64 sl) (.int .u64 (se : Int)) (.bool true) (.slice tA tn tc) (.slice tB tm td) (.int .i64 f2) (.bool o2)).drew = we at FE ⊢
            have BE := FE.below H4.out.bel (by have := Kp.Fr9.sz H4.out.fr; omega)
            have ez0 := Sm.cells_of FE.kr 0 _ rfl; have ez1 := Sm.cells_of FE.kr 1 _ rfl; have ez2 := Sm.cells_of FE.kr 2 _ rfl; have ez3 := Sm.cells_of FE.kr 3 _ rfl; have ez4 := Sm.cells_of FE.kr 4 _ rfl; have ez5 := Sm.cells_of FE.kr 5 _ rfl
            have ey0 := Sm.cells_of FE.dr 0 _ rfl; have ey1 := Sm.cells_of FE.dr 1 _ rfl; have ey2 := Sm.cells_of FE.dr 2 _ rfl; have ey3 := Sm.cells_of FE.dr 3 _ rfl
            have RE := show Dk.RefAt we fp (.agg #[.slice tA tn tc, .slice tB tm td, .int .i64 f2, .bool o2]) R.2.1 from (by rw [ST.out]; exact (H4.out.ref.turned (FE.tu.mono fun i e => H4.out.own i (by omega) (by omega)) fun _ => .inl).off (fun q hq e => .inl e))
            have HBE := Lib.hid BE
            clear FE BE 
            go_wp2
            exact bodyPost_ret (v := .tuple #[.agg #[.int .i64 fr, .string tx, .int .u64 (g : Int), .int .i64 sl, .int .u64 (se : Int), .bool true], .agg #[.slice tA tn tc, .slice tB tm td, .int .i64 f2, .bool o2], .int .i64 er]) ((results_cct rfl _ _ _).trans (by go_simp)) rfl ⟨_, by rw [ST.out]; show _ = Ending.returned (.tuple #[.agg (Kp.kv _), _, _]); rw [EK.out], RE, by rw [← HN.out]; exact HBE.out⟩
      · obtain rfl : i = P := by omega
        have hki : ¬ (i : Int) < (i : Int) := by omega
        have hlx : l.take i = l := List.take_of_length_le (by rw [HLL.out]; exact Nat.le_refl _)
        obtain ⟨W1, hW1⟩ : ∃ x, x = Dk.sync X.1 := ⟨_, rfl⟩
        obtain ⟨M1, er⟩ := W1
        have hsv : Kp.save M b l = (M1, er) := by
          have h0 := HZ0.out
          rw [hlx] at h0
          rw [Pt.saved h0, hW1, HX.out, hlx]
        have STOP : Hid (er ≠ 0 → R = (⟨fr, kt, g, nx, se, true⟩, M1, er)) := fun h0 => STOPX.out M1 er h0 hsv
        have DONE : Hid (er = 0 → R = (⟨fr, t.data.toList, se + 1, 1 - nx, se + 1, false⟩, M1, 0)) := fun h0 => DONEX.out M1 (by rw [hsv, h0])
        have SY : Hid (∀ wx, Dk.RefAt wx (fun q => fp q ∨ (N ≤ q ∧ q < N + 4)) (.agg #[.slice sA sn sc, .slice sB sm sd, .int .i64 f, .bool o]) X.1 → (∀ q, (fp q ∨ (N ≤ q ∧ q < N + 4)) → q < wx.heap.size) → Calls Try.prog 49 #[.agg #[.slice sA sn sc, .slice sB sm sd, .int .i64 f, .bool o]] wx fun e w' => ∃ v', e = .returned (.tuple #[v', .int .i64 er]) ∧ Dk.RefAt w' (fun q => fp q ∨ (N ≤ q ∧ q < N + 4)) v' M1 ∧ Below wx.heap.size wx w') := fun wx h1 h2 => by
          have := r7Sync_any wx _ _ X.1 HOK.out h1 h2 HWT.out
          rw [← hW1] at this
          exact this
        clear hlx hW1 hsv LD
        have HL0 := Lib.hid LD0
        have d0 := Sm.cells_of LD0.fr.db 0 _ rfl; have d1 := Sm.cells_of LD0.fr.db 1 _ rfl; have d2 := Sm.cells_of LD0.fr.db 2 _ rfl; have d3 := Sm.cells_of LD0.fr.db 3 _ rfl
        clear LD0
        go_upto_region 17 with (go_at_call 49; refine (SY.out _ HL0.out.ref HL0.out.lt).mono ?_; rintro e u1 ⟨vn, rfl, href, k1⟩; obtain ⟨tA, tn, tc, tB, tm, td, f2, o2, rfl⟩ := href.quad; have L1 := HL0.out.write href k1; have y0 := Sm.cells_of L1.fr.db 0 _ rfl; have y1 := Sm.cells_of L1.fr.db 1 _ rfl; have y2 := Sm.cells_of L1.fr.db 2 _ rfl; have y3 := Sm.cells_of L1.fr.db 3 _ rfl; have e0 := Sm.free_of L1.fr.db 0; have e1 := Sm.free_of L1.fr.db 1; have e2 := Sm.free_of L1.fr.db 2; have e3 := Sm.free_of L1.fr.db 3)
        have L4 := L1.setD rfl (.slice tA tn tc) (.slice tB tm td) (.int .i64 f2) (.bool o2)
        clear y0 y1 y2 y3 e0 e1 e2 e3 L1 href k1 d0 d1 d2 d3
        generalize ((((u1.setCell ⟨N + 1, 0, none⟩ (.slice tA tn tc)).setCell ⟨N + 1, 1, none⟩ (.slice tB tm td)).setCell ⟨N + 1, 2, none⟩ (.int .i64 f2)).setCell ⟨N + 1, 3, none⟩ (.bool o2)) = u4 at *
        have H4 := Lib.hid L4
        by_cases hz : er = 0
        · have hzb : (er == 0) = true := beq_iff_eq.2 hz
          have DN := Lib.hid (DONE.out hz)
          subst hz
          have F4 := L4.fr
          have k0 := Sm.cells_of F4.kb 0 _ rfl; have k1 := Sm.cells_of F4.kb 1 _ rfl; have k2 := Sm.cells_of F4.kb 2 _ rfl; have k3 := Sm.cells_of F4.kb 3 _ rfl; have k4 := Sm.cells_of F4.kb 4 _ rfl; have k5 := Sm.cells_of F4.kb 5 _ rfl
          have d0 := Sm.cells_of F4.db 0 _ rfl; have d1 := Sm.cells_of F4.db 1 _ rfl; have d2 := Sm.cells_of F4.db 2 _ rfl; have d3 := Sm.cells_of F4.db 3 _ rfl
          have z0 := Sm.cells_of F4.kr 0 _ rfl; have z1 := Sm.cells_of F4.kr 1 _ rfl; have z2 := Sm.cells_of F4.kr 2 _ rfl; have z3 := Sm.cells_of F4.kr 3 _ rfl; have z4 := Sm.cells_of F4.kr 4 _ rfl; have z5 := Sm.cells_of F4.kr 5 _ rfl
          have y0 := Sm.cells_of F4.dr 0 _ rfl; have y1 := Sm.cells_of F4.dr 1 _ rfl; have y2 := Sm.cells_of F4.dr 2 _ rfl; have y3 := Sm.cells_of F4.dr 3 _ rfl
          have zf0 := Sm.free_of F4.kr 0; have zf1 := Sm.free_of F4.kr 1; have zf2 := Sm.free_of F4.kr 2; have zf3 := Sm.free_of F4.kr 3; have zf4 := Sm.free_of F4.kr 4; have zf5 := Sm.free_of F4.kr 5
          have yf0 := Sm.free_of F4.dr 0; have yf1 := Sm.free_of F4.dr 1; have yf2 := Sm.free_of F4.dr 2; have yf3 := Sm.free_of F4.dr 3
          clear F4 L4
          go_upto_region 19 with (fail)
          go_region
          have FE := Kp.Fr9.fin H4.out.fr (.int .i64 fr) (.string t) (.int .u64 ((se + 1 : Nat) : Int)) (.int .i64 (nx : Int)) (.int .u64 ((se + 1 : Nat) : Int)) (.bool false) (.slice tA tn tc) (.slice tB tm td) (.int .i64 f2) (.bool o2)
          change Exit.then _ _ _ _ (Kp.sets9 u4 N (.int .i64 fr) (.string t) (.int .u64 ((se + 1 : Nat) : Int)) (.int .i64 (nx : Int)) (.int .u64 ((se + 1 : Nat) : Int)) (.bool false) (.slice tA tn tc) (.slice tB tm td) (.int .i64 f2) (.bool o2)).drew
          generalize (Kp.sets9 u4 N (.int .i64 fr) (.string t) (.int .u64 ((se + 1 : Nat) : Int)) (.int .i64 (nx : Int)) (.int .u64 ((se + 1 : Nat) : Int)) (.bool false) (.slice tA tn tc) (.slice tB tm td) (.int .i64 f2) (.bool o2)).drew = we at FE ⊢
          have BE := FE.below H4.out.bel (by have := Kp.Fr9.sz H4.out.fr; omega)
          have ez0 := Sm.cells_of FE.kr 0 _ rfl; have ez1 := Sm.cells_of FE.kr 1 _ rfl; have ez2 := Sm.cells_of FE.kr 2 _ rfl; have ez3 := Sm.cells_of FE.kr 3 _ rfl; have ez4 := Sm.cells_of FE.kr 4 _ rfl; have ez5 := Sm.cells_of FE.kr 5 _ rfl
          have ey0 := Sm.cells_of FE.dr 0 _ rfl; have ey1 := Sm.cells_of FE.dr 1 _ rfl; have ey2 := Sm.cells_of FE.dr 2 _ rfl; have ey3 := Sm.cells_of FE.dr 3 _ rfl
          have RE := show Dk.RefAt we fp (.agg #[.slice tA tn tc, .slice tB tm td, .int .i64 f2, .bool o2]) R.2.1 from (by rw [DN.out]; exact (H4.out.ref.turned (FE.tu.mono fun i e => H4.out.own i (by omega) (by omega)) fun _ => .inl).off (fun q hq e => .inl e))
          have HBE := Lib.hid BE
          clear FE BE 
          go_wp2
          exact bodyPost_ret (v := .tuple #[.agg #[.int .i64 fr, .string t, .int .u64 ((se + 1 : Nat) : Int), .int .i64 (nx : Int), .int .u64 ((se + 1 : Nat) : Int), .bool false], .agg #[.slice tA tn tc, .slice tB tm td, .int .i64 f2, .bool o2], .int .i64 0]) ((results_cct rfl _ _ _).trans (by go_simp)) rfl ⟨_, by rw [DN.out]; show _ = Ending.returned (.tuple #[.agg (Kp.kv _), _, _]); rw [EKD.out], RE, by rw [← HN.out]; exact HBE.out⟩
        · have hzb : (er == 0) = false := beq_eq_false_iff_ne.2 hz
          have ST := Lib.hid (STOP.out hz)
          have F4 := L4.fr
          have k0 := Sm.cells_of F4.kb 0 _ rfl; have k1 := Sm.cells_of F4.kb 1 _ rfl; have k2 := Sm.cells_of F4.kb 2 _ rfl; have k3 := Sm.cells_of F4.kb 3 _ rfl; have k4 := Sm.cells_of F4.kb 4 _ rfl; have k5 := Sm.cells_of F4.kb 5 _ rfl
          have d0 := Sm.cells_of F4.db 0 _ rfl; have d1 := Sm.cells_of F4.db 1 _ rfl; have d2 := Sm.cells_of F4.db 2 _ rfl; have d3 := Sm.cells_of F4.db 3 _ rfl
          have z0 := Sm.cells_of F4.kr 0 _ rfl; have z1 := Sm.cells_of F4.kr 1 _ rfl; have z2 := Sm.cells_of F4.kr 2 _ rfl; have z3 := Sm.cells_of F4.kr 3 _ rfl; have z4 := Sm.cells_of F4.kr 4 _ rfl; have z5 := Sm.cells_of F4.kr 5 _ rfl
          have y0 := Sm.cells_of F4.dr 0 _ rfl; have y1 := Sm.cells_of F4.dr 1 _ rfl; have y2 := Sm.cells_of F4.dr 2 _ rfl; have y3 := Sm.cells_of F4.dr 3 _ rfl
          have zf0 := Sm.free_of F4.kr 0; have zf1 := Sm.free_of F4.kr 1; have zf2 := Sm.free_of F4.kr 2; have zf3 := Sm.free_of F4.kr 3; have zf4 := Sm.free_of F4.kr 4; have zf5 := Sm.free_of F4.kr 5
          have yf0 := Sm.free_of F4.dr 0; have yf1 := Sm.free_of F4.dr 1; have yf2 := Sm.free_of F4.dr 2; have yf3 := Sm.free_of F4.dr 3
          clear F4 L4
          go_upto_region 18 with (fail)
          go_region
          have FE := Kp.Fr9.fin H4.out.fr (.int .i64 fr) (.string tx) (.int .u64 (g : Int)) (.int .i64 sl) (.int .u64 (se : Int)) (.bool true) (.slice tA tn tc) (.slice tB tm td) (.int .i64 f2) (.bool o2)
          change Exit.then _ _ _ _ (Kp.sets9 u4 N (.int .i64 fr) (.string tx) (.int .u64 (g : Int)) (.int .i64 sl) (.int .u64 (se : Int)) (.bool true) (.slice tA tn tc) (.slice tB tm td) (.int .i64 f2) (.bool o2)).drew
          generalize (Kp.sets9 u4 N (.int .i64 fr) (.string tx) (.int .u64 (g : Int)) (.int .i64 sl) (.int .u64 (se : Int)) (.bool true) (.slice tA tn tc) (.slice tB tm td) (.int .i64 f2) (.bool o2)).drew = we at FE ⊢
          have BE := FE.below H4.out.bel (by have := Kp.Fr9.sz H4.out.fr; omega)
          have ez0 := Sm.cells_of FE.kr 0 _ rfl; have ez1 := Sm.cells_of FE.kr 1 _ rfl; have ez2 := Sm.cells_of FE.kr 2 _ rfl; have ez3 := Sm.cells_of FE.kr 3 _ rfl; have ez4 := Sm.cells_of FE.kr 4 _ rfl; have ez5 := Sm.cells_of FE.kr 5 _ rfl
          have ey0 := Sm.cells_of FE.dr 0 _ rfl; have ey1 := Sm.cells_of FE.dr 1 _ rfl; have ey2 := Sm.cells_of FE.dr 2 _ rfl; have ey3 := Sm.cells_of FE.dr 3 _ rfl
          have RE := show Dk.RefAt we fp (.agg #[.slice tA tn tc, .slice tB tm td, .int .i64 f2, .bool o2]) R.2.1 from (by rw [ST.out]; exact (H4.out.ref.turned (FE.tu.mono fun i e => H4.out.own i (by omega) (by omega)) fun _ => .inl).off (fun q hq e => .inl e))
          have HBE := Lib.hid BE
          clear FE BE 
          go_wp2
          exact bodyPost_ret (v := .tuple #[.agg #[.int .i64 fr, .string tx, .int .u64 (g : Int), .int .i64 sl, .int .u64 (se : Int), .bool true], .agg #[.slice tA tn tc, .slice tB tm td, .int .i64 f2, .bool o2], .int .i64 er]) ((results_cct rfl _ _ _).trans (by go_simp)) rfl ⟨_, by rw [ST.out]; show _ = Ending.returned (.tuple #[.agg (Kp.kv _), _, _]); rw [EK.out], RE, by rw [← HN.out]; exact HBE.out⟩
end Go.Proofs.Ytmdhnokgjapglaa
