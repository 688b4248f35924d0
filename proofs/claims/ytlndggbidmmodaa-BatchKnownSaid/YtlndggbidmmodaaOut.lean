/-
  What the writing calls of pack do: an Out that lies in memory has its bytes, and those that are put behind them.
-/
import Derived.Test.YtlndggbidmmodaaNumber
import Derived.Deep.RegionLaw
import Derived.Deep.QuietTactic
import Derived.BigQuiet
import Derived.Lib.UnsafeStr
namespace Go.Proofs.Ytlndggbidmmodaa
open Go.RowKit Pk

/-- An Out with these bytes lies in block o; all that is its own lies from block B on. -/
def outAt (w : World) (B o : Nat) (bs : List UInt8) : Prop :=
  B ≤ o ∧ ((w.heap[o]? = some (.cells #[.pointer none, .int .i64 0] 64 (0, 0)) ∧ bs = []) ∨
    ∃ q A c, B ≤ q ∧ w.heap[o]? = some (.cells #[.pointer (some ⟨q, 0, none⟩), .int .i64 bs.length] 64 (0, 0)) ∧
      w.heap[q]? = some (.cells #[.slice A bs.length c] 71 (0, 0)) ∧ w.ownsRow B 5 1 (.slice A bs.length c) bs.length (Lib.byteCells bs))

/-- Every block that is neither an Out, nor a slice of bytes, nor bytes, is as it was. -/
def Fr (w w' : World) : Prop := ∀ (g : Nat) (c : Array Value) (t : TypeId) (fz : Nat × Nat), w.heap[g]? = some (.cells c t fz) → t ≠ 64 → t ≠ 71 → t ≠ 5 → w'.heap[g]? = some (.cells c t fz)
theorem Fr.refl (w : World) : Fr w w := fun _ _ _ _ h _ _ _ => h
theorem Fr.trans {a b c : World} (h : Fr a b) (k : Fr b c) : Fr a c := fun g x t fz h1 h2 h3 h4 => k g x t fz (h g x t fz h1 h2 h3 h4) h2 h3 h4
theorem Fr.alloc {a w : World} (h : Fr a w) (o : Obj) : Fr a (w.alloc o) := fun g x t fz h1 h2 h3 h4 => by
  have h5 := h g x t fz h1 h2 h3 h4
  rw [Below.heap_alloc _ _ _ (Array.getElem?_eq_some_iff.1 h5).1]
  exact h5
theorem Fr.set {a w : World} {b : Nat} {c : Array Value} {t : TypeId} {fz : Nat × Nat} (k : Fr a w) (h : w.heap[b]? = some (.cells c t fz)) (ht : t = 64 ∨ t = 71 ∨ t = 5) (i : Nat) (v : Value) : Fr a (w.setCell ⟨b, i, none⟩ v) := fun g x t' fz' h1 h2 h3 h4 => by
  have h5 := k g x t' fz' h1 h2 h3 h4
  have hne : g ≠ b := by
    intro e
    subst e
    rw [h] at h5
    simp only [Option.some.injEq, Obj.cells.injEq] at h5
    rcases ht with e | e | e
    · exact h2 (by rw [← h5.2.1]; exact e)
    · exact h3 (by rw [← h5.2.1]; exact e)
    · exact h4 (by rw [← h5.2.1]; exact e)
  rw [Below.heap_setCell _ _ _ _ hne]
  exact h5
theorem Fr.grown {w w' : World} {v : Value} {B size n : Nat} {xs : List Value} (hown : w.ownsRow B 5 size v n xs) (hg : w.grownBy w' v.ownBlock) : Fr w w' := fun g x t fz h1 h2 h3 h4 => by
  rw [hg.block g (Array.getElem?_eq_some_iff.1 h1).1, h1]
  intro heq
  rcases hown.2 with ⟨rfl, _⟩ | ⟨g', cap, cur, rfl, _, hh, _⟩
  · simp [Value.ownBlock] at heq
  · simp [Value.ownBlock] at heq
    subst heq
    rw [h1] at hh
    simp only [Option.some.injEq, Obj.cells.injEq] at hh
    exact h4 hh.2.1

theorem info_u8 : (Try.prog.info? 5).map (fun i => (i.zero, i.size, i.bytes)) = some (some (.int .u8 0), 1, 1) := by kernel_rfl

/-- What a block of cells says of its cells. -/
theorem cells_of {w : World} {b : Nat} {c : Array Value} {e : TypeId} (h : w.heap[b]? = some (.cells c e (0, 0))) (i : Nat) (v : Value) (hv : c[i]? = some v) :
    w.cell? ⟨b, i, none⟩ = some v := by simp [World.cell?, h, hv]
theorem free_of {w : World} {b : Nat} {c : Array Value} {e : TypeId} (h : w.heap[b]? = some (.cells c e (0, 0))) (i : Nat) : w.frozen? ⟨b, i, none⟩ = false := by
  simp [World.frozen?, h]

/-- What a slice that is owned looks like. -/
theorem own_shape {w : World} {B e size : Nat} {v : Value} {n : Nat} {xs : List Value} (h : w.ownsRow B e size v n xs) : ∃ A c, v = .slice A n c := by
  rcases h.2 with ⟨rfl, rfl⟩ | ⟨g, cap, cur, rfl, _⟩
  · exact ⟨none, 0, rfl⟩
  · exact ⟨_, cap, rfl⟩

/-- append, onto a slice that is owned, as one step of a region that draws. -/
theorem step_append_own {P : Program} {ops : Array Oper} {o : Oper} {a : Act} {w : World} {K : Act → World → Prop} {Q : Exit → Act → World → Prop} {E : Prop}
    (hgd : o.guard = none) (s x : Operand) (t : TypeId)
    (ho : o.op = .call { callee := .builtin .append, args := #[s, x], argTypes := #[t, t] })
    (base : Nat) (e : TypeId) (i : TypeInfo) (z : Value) (size bytes : Nat) (ht : P.underlying t = some (.slice e)) (hi : P.info? e = some i) (hz : i.zero = some z)
    (hsize : i.size = size) (hby : i.bytes = bytes) (hzs : z.cells.size = size) (hsz : 0 < size)
    (v : Value) (n : Nat) (xs : List Value) (hs : a.eval s = v) (hown : w.ownsRow base e size v n xs)
    (ad : Addr) (m c : Nat) (news : List Value) (hx : a.eval x = .slice (some ad) m c) (hl : news.length = m * size) (hnews : ∀ j u, news[j]? = some u → w.cell? (ad.add j) = some u) (h1 : ∀ u ∈ news, u.oneCell' = true)
    (h63 : n + m ≤ maxLen) (hbytes : (n + m) * bytes ≤ 140737488355328) (hbase : base ≤ w.heap.size)
    (h : ∀ A' c' w', w'.ownsRow base e size (.slice A' (n + m) c') (n + m) (xs ++ news) → w.grownBy w' v.ownBlock → K (a.put o.dst (.slice A' (n + m) c')) w') :
    if Region.wanted o (yielded ops a.tmps) = true then Oper.wp P o a w K Q else E := by
  rw [if_pos (by simp [Region.wanted, hgd])]
  refine wp_append_own w s x t ho base e i z size bytes ht hi hz hsize hby hzs hsz v n xs hs hown ad m c news hx hl hnews h1 h63 hbytes hbase ?_
  intro v' w' h2 h3 _
  obtain ⟨A', c', rfl⟩ := own_shape h2
  exact h A' c' w' h2 h3

/-- What an append leaves of a block that is not the row's. -/
theorem grown_block {w w' : World} {v : Value} {B e e' size n : Nat} {xs : List Value} (hg : w.grownBy w' v.ownBlock) (hown : w.ownsRow B e size v n xs) {b : Nat} {c : Array Value}
    (h : w.heap[b]? = some (.cells c e' (0, 0))) (hne : e' ≠ e) : w'.heap[b]? = some (.cells c e' (0, 0)) := by
  rw [hg.block b (Array.getElem?_eq_some_iff.1 h).1, h]
  intro heq
  rcases hown.2 with ⟨rfl, _⟩ | ⟨g, cap, cur, rfl, _, hh, _⟩
  · simp [Value.ownBlock] at heq
  · simp [Value.ownBlock] at heq
    subst heq
    rw [h] at hh
    simp only [Option.some.injEq, Obj.cells.injEq] at hh
    exact hne hh.2.1

theorem byte_one (l : List UInt8) : ∀ u ∈ Lib.byteCells l, u.oneCell' = true := by
  intro u hu
  obtain ⟨x, _, rfl⟩ := List.mem_map.1 hu
  rfl

theorem own_ne {w : World} {B e e' size n b : Nat} {v : Value} {xs : List Value} {c : Array Value} (hown : w.ownsRow B e size v n xs) (h : w.heap[b]? = some (.cells c e' (0, 0))) (hne : e' ≠ e) : v.ownBlock ≠ some b := by
  intro heq
  rcases hown.2 with ⟨rfl, _⟩ | ⟨g, cap, cur, rfl, _, hh, _⟩
  · simp [Value.ownBlock] at heq
  · simp [Value.ownBlock] at heq
    subst heq
    rw [h] at hh
    simp only [Option.some.injEq, Obj.cells.injEq] at hh
    exact hne hh.2.1

theorem put_close {w w' : World} {B o q m nq : Nat} {bs new : List UInt8} {A A' : Option Addr} {c c' : Nat} (hBo : B ≤ o) (hBq : B ≤ q) (hB : B ≤ w.heap.size)
    (hown : w.ownsRow B 5 1 (.slice A bs.length c) bs.length (Lib.byteCells bs))
    (hO : w'.heap[o]? = some (.cells #[.pointer (some ⟨q, 0, none⟩), .int .i64 bs.length] 64 (0, 0)))
    (hQ : w'.heap[q]? = some (.cells #[.slice A bs.length c] 71 (0, 0)))
    (hown' : w'.ownsRow B 5 1 (.slice A' (bs.length + m) c') (bs.length + m) (Lib.byteCells bs ++ Lib.byteCells new))
    (hg : (w.drewN nq).grownBy w' (Value.slice A bs.length c).ownBlock) (hm : new.length = m) :
    outAt ((w'.setCell ⟨q, 0, none⟩ (.slice A' (bs.length + m) c')).setCell ⟨o, 1, none⟩ (.int .i64 (bs.length + m))) B o (bs ++ new) ∧
      Below B w ((w'.setCell ⟨q, 0, none⟩ (.slice A' (bs.length + m) c')).setCell ⟨o, 1, none⟩ (.int .i64 (bs.length + m))) ∧ Fr w ((w'.setCell ⟨q, 0, none⟩ (.slice A' (bs.length + m) c')).setCell ⟨o, 1, none⟩ (.int .i64 (bs.length + m))) := by
  have hqo : q ≠ o := by
    intro h
    subst h
    rw [hO] at hQ
    simp at hQ
  have h1 : (bs ++ new).length = bs.length + m := by simp [hm]
  have hfr : Fr w ((w'.setCell ⟨q, 0, none⟩ (.slice A' (bs.length + m) c')).setCell ⟨o, 1, none⟩ (.int .i64 (bs.length + m))) := by
    have k0 : Fr w w' := Fr.grown (w := w) hown ⟨hg.os, hg.tape, hg.output, hg.size, hg.block⟩
    have k1 := k0.set hQ (.inr (.inl rfl)) 0 (.slice A' (bs.length + m) c')
    exact k1.set (by rw [Below.heap_setCell _ _ _ _ (fun e => hqo (by rw [e]))]; exact hO) (.inl rfl) 1 _
  refine ⟨⟨hBo, .inr ⟨q, A', c', hBq, ?_, ?_, ?_⟩⟩, ?_, hfr⟩
  · rw [heap_set (by rw [Below.heap_setCell _ _ _ _ (fun e => hqo (by rw [e]))]; exact hO) 1 _, h1]
    simp
  · rw [Below.heap_setCell _ _ _ _ hqo, heap_set hQ 0 _, h1]
    simp
  · rw [h1, Lib.byteCells_append]
    exact ownsRow_setCell_other (ownsRow_setCell_other hown' (own_ne hown' hQ (by decide)) _) (own_ne hown' hO (by decide)) _
  · have hb : Below B w w' := (Below.refl B w).grown (w := w) ⟨hg.os, hg.tape, hg.output, hg.size, hg.block⟩ hB fun k hk => (hown.lt k hk).1
    exact (hb.setCell hBq _).setCell hBo _

set_option maxHeartbeats 1000000 in
/-- Bytes put behind those of an Out that was written to. -/
theorem put_more_fr {w : World} {B o q : Nat} {bs : List UInt8} {A : Option Addr} {c : Nat} (hBo : B ≤ o) (hBq : B ≤ q) (hB : B ≤ w.heap.size)
    (ho : w.heap[o]? = some (.cells #[.pointer (some ⟨q, 0, none⟩), .int .i64 bs.length] 64 (0, 0)))
    (hq : w.heap[q]? = some (.cells #[.slice A bs.length c] 71 (0, 0))) (hown : w.ownsRow B 5 1 (.slice A bs.length c) bs.length (Lib.byteCells bs))
    (ad : Addr) (m cm : Nat) (new : List UInt8) (hm : new.length = m) (hsrc : ∀ j u, (Lib.byteCells new)[j]? = some u → w.cell? (ad.add j) = some u)
    (hroom : bs.length + m ≤ 140737488355328) :
    Calls Try.prog 61 #[.pointer (some ⟨o, 0, none⟩), .slice (some ad) m cm] w fun e w' => e = .returned (.tuple #[]) ∧ outAt w' B o (bs ++ new) ∧ Below B w w' ∧ Fr w w' := by
  obtain ⟨i0, hi, hz0, hz1, hz2⟩ := info_parts info_u8
  have o0 := cells_of ho 0 _ rfl
  have o1 := cells_of ho 1 _ rfl
  have q0 := cells_of hq 0 _ rfl
  have hqo : q ≠ o := by
    intro h
    subst h
    rw [ho] at hq
    simp at hq
  have hoq : o ≠ q := hqo.symm
  have Ho := Lib.hid ho
  have Hq := Lib.hid hq
  have Hown := Lib.hid hown
  have Hsrc := Lib.hid hsrc
  have Hm := Lib.hid hm
  clear ho hq hown hsrc hm
  go_enter Try.func61, Try.ntmps61
  go_wp2
  go_quiet (fail)
  go_wp2
  go_region_law (
    (refine step_append_own rfl (.tmp 52) (.tmp 53) 71 rfl B 5 i0 (.int .u8 0) 1 1 Try.underlying71 hi hz0 hz1 hz2 rfl (by decide) (.slice A bs.length c) bs.length (Lib.byteCells bs) (by simp [Act.eval]) (by exact Hown.out) ad m cm (Lib.byteCells new) (by simp [Act.eval]) (by simp [Lib.byteCells, Hm.out]) (by exact Hsrc.out) (byte_one new) (by unfold maxLen; omega) (by omega) (by exact hB) ?_
     intro A' c' w' hown' hg'
     have hO := Lib.hid (grown_block hg' (by exact Hown.out) (by exact Ho.out) (by decide))
     have hQ := Lib.hid (grown_block hg' (by exact Hown.out) (by exact Hq.out) (by decide))
     have p0 := cells_of hO.out 0 _ rfl
     have p1 := cells_of hO.out 1 _ rfl
     have r0 := cells_of hQ.out 0 _ rfl
     have r1 := free_of hQ.out 0
     have r2 := free_of hO.out 1
     have Hown' := Lib.hid hown'
     have Hg' := Lib.hid hg'
     clear hown' hg'))
  all_goals go_wp2
  all_goals go_end0
  all_goals exact ⟨rfl, put_close (w := w) hBo hBq hB Hown.out hO.out hQ.out Hown'.out Hg'.out Hm.out⟩

set_option maxHeartbeats 1000000 in
/-- Bytes put into an Out that was not written to. -/
theorem put_first_fr {w : World} {B o : Nat} (hBo : B ≤ o) (hB : B ≤ w.heap.size)
    (ho : w.heap[o]? = some (.cells #[.pointer none, .int .i64 0] 64 (0, 0)))
    (ad : Addr) (hne : ad.block ≠ o) (m cm : Nat) (new : List UInt8) (hm : new.length = m) (hsrc : ∀ j u, (Lib.byteCells new)[j]? = some u → w.cell? (ad.add j) = some u)
    (hroom : m ≤ 140737488355328) :
    Calls Try.prog 61 #[.pointer (some ⟨o, 0, none⟩), .slice (some ad) m cm] w fun e w' => e = .returned (.tuple #[]) ∧ outAt w' B o new ∧ Below B w w' ∧ Fr w w' := by
  obtain ⟨i0, hi, hz0, hz1, hz2⟩ := info_parts info_u8
  have o0 := cells_of ho 0 _ rfl
  have o1 := cells_of ho 1 _ rfl
  have f0 := free_of ho 0
  have hlt : o < w.heap.size := (Array.getElem?_eq_some_iff.1 ho).1
  have Ho := Lib.hid ho
  have Hsrc := Lib.hid hsrc
  have Hm := Lib.hid hm
  clear ho hsrc hm
  go_enter Try.func61, Try.ntmps61
  go_wp2
  generalize hW : ((w.setCell ⟨o, 0, none⟩ (.pointer (some ⟨w.heap.size, 0, none⟩))).alloc (.cells #[.slice none 0 0] 71)) = W0
  have g1 : W0.heap[o]? = some (.cells #[.pointer (some ⟨w.heap.size, 0, none⟩), .int .i64 0] 64 (0, 0)) := by
    rw [← hW, Below.heap_alloc _ _ _ (by simpa using hlt), heap_set Ho.out 0 _]
    simp
  have g2 : W0.heap[w.heap.size]? = some (.cells #[.slice none 0 0] 71 (0, 0)) := by
    rw [← hW]
    have := heap_alloc_new (w.setCell ⟨o, 0, none⟩ (.pointer (some ⟨w.heap.size, 0, none⟩))) (.cells #[.slice none 0 0] 71)
    simpa using this
  have g3 : Below B w W0 := by
    rw [← hW]
    exact ((Below.refl B w).setCell hBo _).alloc (by simpa using hB) _
  have g7 : Fr w W0 := by
    rw [← hW]
    exact ((Fr.refl w).set Ho.out (.inl rfl) 0 _).alloc _
  have g4 : ∀ j u, (Lib.byteCells new)[j]? = some u → W0.cell? (ad.add j) = some u := by
    intro j u hu
    have h1 := Hsrc.out j u hu
    have h2 := World.block_lt_of_cell? w _ h1
    have hb : (ad.add j).block = ad.block := by unfold Addr.add; split <;> rfl
    rw [← h1, ← hW]
    refine World.cell?_of_block ?_
    rw [Below.heap_alloc _ _ _ (by simpa using h2), Below.heap_setCell _ _ _ _ (by rw [hb]; exact hne)]
  have g5 : B ≤ W0.heap.size := by rw [← hW]; simp; omega
  have g6 : B ≤ w.heap.size := hB
  clear hW Hsrc Ho o0 o1 f0 hlt
  generalize w.heap.size = q at *
  have hqo : q ≠ o := by
    intro h
    subst h
    rw [g1] at g2
    simp at g2
  have hoq : o ≠ q := hqo.symm
  have Ho := Lib.hid g1
  have Hq := Lib.hid g2
  have Hown := Lib.hid (World.ownsRow_nil W0 B 5 1)
  have Hsrc := Lib.hid g4
  have o0 := cells_of g1 0 _ rfl
  have o1 := cells_of g1 1 _ rfl
  have q0 := cells_of g2 0 _ rfl
  clear g1 g2 g4
  go_quiet (fail)
  go_wp2
  go_region_law (
    (refine step_append_own rfl (.tmp 52) (.tmp 53) 71 rfl B 5 i0 (.int .u8 0) 1 1 Try.underlying71 hi hz0 hz1 hz2 rfl (by decide) (.slice none 0 0) 0 [] (by simp [Act.eval]) (by exact Hown.out) ad m cm (Lib.byteCells new) (by simp [Act.eval]) (by simp [Lib.byteCells, Hm.out]) (by exact Hsrc.out) (byte_one new) (by unfold maxLen; omega) (by omega) (by exact g5) ?_
     intro A' c' w' hown' hg'
     have hO := Lib.hid (grown_block hg' (by exact Hown.out) (by exact Ho.out) (by decide))
     have hQ := Lib.hid (grown_block hg' (by exact Hown.out) (by exact Hq.out) (by decide))
     have p0 := cells_of hO.out 0 _ rfl
     have p1 := cells_of hO.out 1 _ rfl
     have r0 := cells_of hQ.out 0 _ rfl
     have r1 := free_of hQ.out 0
     have r2 := free_of hO.out 1
     have Hown' := Lib.hid hown'
     have Hg' := Lib.hid hg'
     clear hown' hg'))
  all_goals go_wp2
  all_goals go_end0
  all_goals
    have h := put_close (w := W0) (bs := []) (m := m) hBo hB g5 Hown.out hO.out hQ.out Hown'.out Hg'.out Hm.out
    simp only [List.length_nil, Nat.zero_add, List.nil_append, Int.natCast_zero, Int.zero_add] at h
    exact ⟨rfl, h.1, g3.trans h.2.1, g7.trans h.2.2⟩

/-- Bytes put behind those of an Out. -/
theorem put_any_fr {w : World} {B o : Nat} {bs : List UInt8} (hout : outAt w B o bs) (hB : B ≤ w.heap.size)
    (ad : Addr) (hne : ad.block ≠ o) (m cm : Nat) (new : List UInt8) (hm : new.length = m) (hsrc : ∀ j u, (Lib.byteCells new)[j]? = some u → w.cell? (ad.add j) = some u)
    (hroom : bs.length + m ≤ 140737488355328) :
    Calls Try.prog 61 #[.pointer (some ⟨o, 0, none⟩), .slice (some ad) m cm] w fun e w' => e = .returned (.tuple #[]) ∧ outAt w' B o (bs ++ new) ∧ Below B w w' ∧ Fr w w' := by
  obtain ⟨hBo, ⟨ho, rfl⟩ | ⟨q, A, c, hBq, ho, hq, hown⟩⟩ := hout
  · exact put_first_fr hBo hB ho ad hne m cm new hm hsrc (by simpa using hroom)
  · exact put_more_fr hBo hBq hB ho hq hown ad m cm new hm hsrc hroom

theorem put_any {w : World} {B o : Nat} {bs : List UInt8} (hout : outAt w B o bs) (hB : B ≤ w.heap.size)
    (ad : Addr) (hne : ad.block ≠ o) (m cm : Nat) (new : List UInt8) (hm : new.length = m) (hsrc : ∀ j u, (Lib.byteCells new)[j]? = some u → w.cell? (ad.add j) = some u)
    (hroom : bs.length + m ≤ 140737488355328) :
    Calls Try.prog 61 #[.pointer (some ⟨o, 0, none⟩), .slice (some ad) m cm] w fun e w' => e = .returned (.tuple #[]) ∧ outAt w' B o (bs ++ new) ∧ Below B w w' :=
  (put_any_fr hout hB ad hne m cm new hm hsrc hroom).mono fun _ _ ⟨h1, h2, h3, _⟩ => ⟨h1, h2, h3⟩

set_option maxHeartbeats 400000 in
theorem put_nil (a : Addr) (l c : Nat) (w : World) : Calls Try.prog 61 #[.pointer none, .slice (some a) l c] w fun e w' => e = .returned (.tuple #[]) ∧ w = w' := by
  go_enter Try.func61, Try.ntmps61
  go_wp2
  refine bodyPost_ret (results_none rfl _ _ _) rfl ?_
  exact ⟨rfl, rfl⟩
end Go.Proofs.Ytlndggbidmmodaa
