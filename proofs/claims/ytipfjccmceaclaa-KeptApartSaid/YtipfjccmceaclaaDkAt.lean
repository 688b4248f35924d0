/-
  Package disk's memory: rows of sectors, the map of the writes that wait, a disk's block; what becomes of them where something else turns.
-/
import Derived.Test.YtipfjccmceaclaaMem
import Derived.Test.YtipfjccmceaclaaDkMath
import Derived.Test.YtipfjccmceaclaaDkMap
import Derived.Laws.AppendOwn
namespace Go.Proofs.Ytipfjccmceaclaa
open Go.RowKit
theorem Sm.grown_setCells2 {a : World} {b : Nat} : ∀ {w : World} (_ : a.grownBy w (some b)) (vs : List Value) (o : Nat), a.grownBy (w.setCells b o vs) (some b)
  | _, h, [], _ => h
  | _, h, v :: vs, o => Sm.grown_setCells2 (Sm.grown_set h o v) vs (o + 1)
namespace Dk
def flat (l : List (List UInt8)) : List Value := l.flatMap Lib.byteCells
theorem flat_append (l m : List (List UInt8)) : flat (l ++ m) = flat l ++ flat m := by simp [flat]
theorem flat_length : ∀ {l : List (List UInt8)}, (∀ s ∈ l, s.length = 64) → (flat l).length = l.length * 64
  | [], _ => rfl
  | s :: l, h => by
    have ih := flat_length (l := l) fun x hx => h x (by simp [hx])
    have hs := h s (by simp)
    simp only [flat, List.flatMap_cons, List.length_append, Lib.byteCells_length, List.length_cons] at ih ⊢
    omega
theorem flat_one (l : List (List UInt8)) : ∀ u ∈ flat l, u.oneCell' = true := by
  intro u hu
  obtain ⟨s, _, hs⟩ := List.mem_flatMap.1 hu
  exact Lib.byteCells_one s u hs
theorem flat_get : ∀ {l : List (List UInt8)} {i : Nat}, (∀ s ∈ l, s.length = 64) → i < l.length → ∀ j, j < 64 → (flat l)[i * 64 + j]? = (Lib.byteCells (l.getD i []))[j]?
  | [], _, _, hi, _, _ => by simp at hi
  | s :: l, 0, h, _, j, hj => by
    have hs := h s (by simp)
    simp only [flat, List.flatMap_cons, List.getD_cons_zero, Nat.zero_mul, Nat.zero_add]
    rw [List.getElem?_append_left (by rw [Lib.byteCells_length]; omega)]
  | s :: l, i + 1, h, hi, j, hj => by
    have hs := h s (by simp)
    have ih := flat_get (l := l) (i := i) (fun x hx => h x (by simp [hx])) (by simpa using hi) j hj
    simp only [flat, List.flatMap_cons, List.getD_cons_succ] at ih ⊢
    rw [List.getElem?_append_right (by rw [Lib.byteCells_length]; omega), Lib.byteCells_length, hs, show (i + 1) * 64 + j - 64 = i * 64 + j by omega]
    exact ih
/-- A row of sectors in block b, with room for c. -/
structure RowAt (w : World) (b c : Nat) (l : List (List UInt8)) : Prop where
  row : ∃ cur, w.heap[b]? = some (.cells cur 106 (0, 0)) ∧ cur.size = c * 64 ∧ cur.toList.take (l.length * 64) = flat l
  cap : l.length ≤ c ∧ c ≤ maxLen
  sec : ∀ s ∈ l, s.length = 64
theorem RowAt.lt {w : World} {b c : Nat} {l : List (List UInt8)} (h : RowAt w b c l) : b < w.heap.size := by obtain ⟨cur, h, _⟩ := h.row; exact Sm.lt_of h
theorem RowAt.block {w w' : World} {b c : Nat} {l : List (List UInt8)} (h : RowAt w b c l) (k : w'.heap[b]? = w.heap[b]?) : RowAt w' b c l := by
  obtain ⟨cur, h1, h2⟩ := h.row
  exact ⟨⟨cur, k.trans h1, h2⟩, h.cap, h.sec⟩
theorem RowAt.own {w : World} {b c : Nat} {l : List (List UInt8)} (h : RowAt w b c l) {B : Nat} (hB : B ≤ b) : w.ownsRow B 106 64 (.slice (some ⟨b, 0, none⟩) l.length c) l.length (flat l) := by
  obtain ⟨cur, h1, h2, h3⟩ := h.row
  exact ⟨flat_length h.sec, .inr ⟨b, c, cur, rfl, hB, h1, h.cap.1, h.cap.2, h2, h3⟩⟩
theorem RowAt.of_own {w : World} {B n : Nat} {v : Value} {l : List (List UInt8)} (h : w.ownsRow B 106 64 v n (flat l)) (hn : n = l.length) (h0 : n ≠ 0) (hs : ∀ s ∈ l, s.length = 64) :
    ∃ b c, v = .slice (some ⟨b, 0, none⟩) l.length c ∧ RowAt w b c l ∧ B ≤ b ∧ v.ownBlock = some b := by
  subst hn
  rcases h.2 with ⟨_, e⟩ | ⟨b, c, cur, rfl, hb, h1, h2, h3, h4, h5⟩
  · exact absurd e h0
  · exact ⟨b, c, rfl, ⟨⟨cur, h1, h4, h5⟩, ⟨h2, h3⟩, hs⟩, hb, rfl⟩
theorem RowAt.get {w : World} {b c : Nat} {l : List (List UInt8)} (h : RowAt w b c l) {i : Nat} (hi : i < l.length) {j : Nat} (hj : j < 64) : w.cell? ⟨b, i * 64 + j, none⟩ = (Lib.byteCells (l.getD i []))[j]? := by
  obtain ⟨cur, h1, h2, h3⟩ := h.row
  rw [← flat_get h.sec hi j hj, ← h3, List.getElem?_take, if_pos (by omega)]
  simp [World.cell?, h1]
theorem sec_length {l : List (List UInt8)} (h : ∀ s ∈ l, s.length = 64) {i : Nat} (hi : i < l.length) : (l.getD i []).length = 64 := by
  rw [List.getD_eq_getElem?_getD, List.getElem?_eq_getElem hi]
  exact h _ (List.getElem_mem hi)
theorem RowAt.range {w : World} {b c : Nat} {l : List (List UInt8)} (h : RowAt w b c l) {i : Nat} (hi : i < l.length) : w.rangeAt b (i * 64) (Lib.byteCells (l.getD i [])) := fun j v hv => by
  have hj : j < 64 := by
    have := (List.getElem?_eq_some_iff.1 hv).1
    rwa [Lib.byteCells_length, sec_length h.sec hi] at this
  rw [h.get hi hj, hv]
theorem RowAt.there {w : World} {b c : Nat} {l : List (List UInt8)} (h : RowAt w b c l) {i : Nat} (hi : i < l.length) : w.there b (i * 64) 64 := fun j hj => by
  refine ⟨?_, ?_⟩
  · rw [h.get hi hj, Sm.byteCells_get (by rw [sec_length h.sec hi]; exact hj)]; rfl
  · obtain ⟨cur, h1, _⟩ := h.row
    exact Sm.free_of h1 _
theorem RowAt.cell {w : World} {b c : Nat} {l : List (List UInt8)} (h : RowAt w b c l) {i : Nat} (hi : i < l.length) {j : Nat} (hj : j < 64) : w.cell? ⟨b, i * 64 + j, none⟩ = some (.int .u8 ((l.getD i []).getD j 0).toNat) := by
  rw [h.get hi hj, Sm.byteCells_get (by rw [sec_length h.sec hi]; exact hj)]
theorem RowAt.free {w : World} {b c : Nat} {l : List (List UInt8)} (h : RowAt w b c l) (i : Nat) : w.frozen? ⟨b, i, none⟩ = false := by
  obtain ⟨cur, h1, _⟩ := h.row
  exact Sm.free_of h1 _
/-- Two lists of as many sectors whose cells are the same. -/
theorem flat_set {l : List (List UInt8)} {i : Nat} {s : List UInt8} (h : ∀ s ∈ l, s.length = 64) (hi : i < l.length) :
    flat (l.set i s) = (flat l).take (i * 64) ++ (Lib.byteCells s ++ (flat l).drop (i * 64 + 64)) := by
  induction l generalizing i with
  | nil => simp at hi
  | cons t l ih =>
    have ht := h t (by simp)
    have htl : (Lib.byteCells t).length = 64 := by rw [Lib.byteCells_length, ht]
    cases i with
    | zero =>
      simp only [List.set_cons_zero, flat, List.flatMap_cons, Nat.zero_mul, List.take_zero, List.nil_append, Nat.zero_add]
      rw [List.drop_left' htl]
    | succ i =>
      have e := ih (i := i) (fun x hx => h x (by simp [hx])) (by simpa using hi)
      simp only [List.set_cons_succ, flat, List.flatMap_cons] at e ⊢
      rw [e, List.take_append, List.drop_append, htl, List.take_of_length_le (l := Lib.byteCells t) (by rw [htl]; omega), List.drop_of_length_le (l := Lib.byteCells t) (by rw [htl]; omega), List.nil_append, List.append_assoc, show (i + 1) * 64 - 64 = i * 64 by omega, show (i + 1) * 64 + 64 - 64 = i * 64 + 64 by omega]
theorem RowAt.set {w : World} {b c : Nat} {l : List (List UInt8)} (h : RowAt w b c l) {i : Nat} (hi : i < l.length) {s : List UInt8} (hs : s.length = 64) : RowAt (w.setCells b (i * 64) (Lib.byteCells s)) b c (l.set i s) := by
  obtain ⟨cur, h1, h2, h3⟩ := h.row
  have hcap := h.cap
  have hsl : (Lib.byteCells s).length = 64 := by rw [Lib.byteCells_length, hs]
  have hle : i * 64 + 64 ≤ c * 64 := by omega
  refine ⟨⟨_, Sm.heap_setCells (Lib.byteCells s) (i * 64) w cur h1 (by rw [hsl, h2]; exact hle), ?_, ?_⟩, by rw [List.length_set]; exact h.cap, fun x hx => ?_⟩
  · simp [h2]; omega
  · rw [List.length_set, flat_set h.sec hi, ← h3, hsl]
    rw [List.take_take, Nat.min_eq_left (show i * 64 ≤ l.length * 64 by omega), List.take_append, List.take_append, List.length_take, hsl, List.drop_take,
      show min (i * 64) cur.toList.length = i * 64 by simp [h2]; omega, List.take_take, Nat.min_eq_right (show i * 64 ≤ l.length * 64 by omega), List.take_of_length_le (l := Lib.byteCells s) (by rw [hsl]; omega), show l.length * 64 - i * 64 - 64 = l.length * 64 - (i * 64 + 64) by omega]
  · rcases List.mem_or_eq_of_mem_set hx with e | e
    · exact h.sec x e
    · rw [e]; exact hs
/-- One byte of a sector is set. -/
theorem RowAt.setByte {w : World} {b c : Nat} {l : List (List UInt8)} (h : RowAt w b c l) {i : Nat} (hi : i < l.length) {j : Nat} (hj : j < 64) (x : UInt8) : RowAt (w.setCell ⟨b, i * 64 + j, none⟩ (.int .u8 x.toNat)) b c (l.set i ((l.getD i []).set j x)) := by
  obtain ⟨cur, h1, h2, h3⟩ := h.row
  have hcap := h.cap
  have hs := sec_length h.sec hi
  have hss : ((l.getD i []).set j x).length = 64 := by rw [List.length_set]; exact hs
  have hset := h.set hi hss
  obtain ⟨cur', q1, q2, q3⟩ := hset.row
  refine ⟨⟨_, Sm.heap_set h1 _ _, by simpa using h2, ?_⟩, hset.cap, hset.sec⟩
  rw [Sm.heap_setCells _ _ w cur h1 (by rw [Lib.byteCells_length, hss, h2]; omega)] at q1
  injection q1 with q1
  injection q1 with q1
  rw [← q3, ← q1, List.length_set]
  congr 1
  refine List.ext_getElem? fun k => ?_
  simp only [Array.toList_setIfInBounds]
  have hlen : cur.toList.length = c * 64 := by simp [h2]
  have hcur : ∀ m, m < 64 → cur.toList[i * 64 + m]? = some (.int .u8 ((l.getD i []).getD m 0).toNat) := fun m hm => by
    have := h.cell hi hm
    simpa [World.cell?, h1] using this
  by_cases k1 : k < i * 64
  · rw [List.getElem?_set_ne (by omega), List.getElem?_append_left (by rw [List.length_take]; omega), List.getElem?_take, if_pos k1]
  · rw [List.getElem?_append_right (by rw [List.length_take]; omega), List.length_take, Nat.min_eq_left (by omega), Lib.byteCells_length, hss]
    by_cases k2 : k < i * 64 + 64
    · rw [List.getElem?_append_left (by rw [Lib.byteCells_length, hss]; omega), Sm.byteCells_get (by rw [hss]; omega)]
      by_cases k3 : k = i * 64 + j
      · subst k3
        rw [List.getElem?_set_self (by omega), show i * 64 + j - i * 64 = j by omega, show ((l.getD i []).set j x).getD j 0 = x by rw [List.getD_eq_getElem?_getD, List.getElem?_set_self (by rw [hs]; exact hj)]; rfl]
      · have e := hcur (k - i * 64) (by omega)
        rw [show i * 64 + (k - i * 64) = k by omega] at e
        rw [List.getElem?_set_ne (by omega), e, List.getD_eq_getElem?_getD (l := (l.getD i []).set j x), List.getElem?_set_ne (by omega), ← List.getD_eq_getElem?_getD]
    · rw [List.getElem?_set_ne (by omega), List.getElem?_append_right (by rw [Lib.byteCells_length, hss]; omega), Lib.byteCells_length, hss, List.getElem?_drop, show i * 64 + 64 + (k - i * 64 - 64) = k by omega]
def cells (b n c m : Nat) (off : Bool) (fuse : Int) : Array Value := #[.slice (some ⟨b, 0, none⟩) n c, .map (some m), .bool off, .int .i64 fuse]
/-- What belongs to a disk: its block r, its map m, what lasts b, the lists of what waits g. -/
structure Parts (w : World) (r m b c : Nat) (g : Nat → Nat) (F : Nat → Option Value) (M : Md) : Prop where
  ok : M.Ok
  disk : w.heap[r]? = some (.cells (cells b M.lasts.length c m M.off M.fuse) 76 (0, 0))
  row : RowAt w b c M.lasts
  map : MapAt Try.prog 3 w m M.lasts.length F
  idle : ∀ i, i < M.lasts.length → M.W i = [] → F i = none
  wait : ∀ i, i < M.lasts.length → M.W i ≠ [] → ∃ ci, F i = some (.slice (some ⟨g i, 0, none⟩) (M.W i).length ci) ∧ RowAt w (g i) ci (M.W i)
  apart : ∀ i, i < M.lasts.length → M.W i ≠ [] → g i ≠ b
  inj : ∀ i j, i < M.lasts.length → j < M.lasts.length → M.W i ≠ [] → M.W j ≠ [] → g i = g j → i = j
def own (r m b : Nat) (g : Nat → Nat) (M : Md) : Nat → Prop := fun k => k = r ∨ k = m ∨ k = b ∨ ∃ i, i < M.lasts.length ∧ M.W i ≠ [] ∧ k = g i
theorem disk_sector : 76 ≠ 106 := by decide
theorem ne_cells {w : World} {a b : Nat} {c d : Array Value} {s t : TypeId} {f g : Nat × Nat} (h : w.heap[a]? = some (.cells c s f)) (k : w.heap[b]? = some (.cells d t g)) (hne : s ≠ t) : a ≠ b := by
  rintro rfl
  rw [h] at k
  injection k with k
  injection k with _ k
  exact hne k
theorem ne_map {w : World} {a b : Nat} {c : Array Value} {s : TypeId} {f : Nat × Nat} {es : Array MapEntry} {n : Nat} (h : w.heap[a]? = some (.cells c s f)) (k : w.heap[b]? = some (.map es n)) : a ≠ b := by
  rintro rfl
  rw [h] at k
  cases k
section
variable {w w' : World} {r m b c : Nat} {g : Nat → Nat} {F : Nat → Option Value} {M : Md}
theorem Parts.keep (h : Parts w r m b c g F M) (k : ∀ i, own r m b g M i → w'.heap[i]? = w.heap[i]?) : Parts w' r m b c g F M :=
  ⟨h.ok, (k r (.inl rfl)).trans h.disk, h.row.block (k b (.inr (.inr (.inl rfl)))), h.map.block (k m (.inr (.inl rfl))), h.idle,
    fun i hi hw => by
      obtain ⟨ci, h1, h2⟩ := h.wait i hi hw
      exact ⟨ci, h1, h2.block (k _ (.inr (.inr (.inr ⟨i, hi, hw, rfl⟩))))⟩, h.apart, h.inj⟩
theorem Parts.lt (h : Parts w r m b c g F M) : ∀ i, own r m b g M i → i < w.heap.size := by
  rintro i (rfl | rfl | rfl | ⟨j, hj, hw, rfl⟩)
  · exact Sm.lt_of h.disk
  · exact h.map.lt
  · exact h.row.lt
  · obtain ⟨ci, _, h2⟩ := h.wait j hj hw
    exact h2.lt
theorem Parts.ne_rm (h : Parts w r m b c g F M) : r ≠ m := by obtain ⟨es, k, hm⟩ := h.map.kind; exact ne_map h.disk hm
theorem Parts.ne_rb (h : Parts w r m b c g F M) : r ≠ b := by obtain ⟨cur, hb, _⟩ := h.row.row; exact ne_cells h.disk hb disk_sector
theorem Parts.ne_bm (h : Parts w r m b c g F M) : b ≠ m := by obtain ⟨es, k, hm⟩ := h.map.kind; obtain ⟨cur, hb, _⟩ := h.row.row; exact ne_map hb hm
theorem Parts.ne_gr (h : Parts w r m b c g F M) {i : Nat} (hi : i < M.lasts.length) (hw : M.W i ≠ []) : g i ≠ r := by
  obtain ⟨ci, _, h2⟩ := h.wait i hi hw
  obtain ⟨cur, hb, _⟩ := h2.row
  exact ne_cells hb h.disk disk_sector.symm
theorem Parts.ne_gm (h : Parts w r m b c g F M) {i : Nat} (hi : i < M.lasts.length) (hw : M.W i ≠ []) : g i ≠ m := by
  obtain ⟨es, k, hm⟩ := h.map.kind
  obtain ⟨ci, _, h2⟩ := h.wait i hi hw
  obtain ⟨cur, hb, _⟩ := h2.row
  exact ne_map hb hm
theorem Parts.below (h : Parts w r m b c g F M) {B : Nat} (k : Below B w w') (hB : w.heap.size ≤ B) : Parts w' r m b c g F M := h.keep fun i hi => k.block i (by have := h.lt i hi; omega)
theorem Parts.grown0 (h : Parts w r m b c g F M) (k : w.grownBy w' none) : Parts w' r m b c g F M := h.keep fun i hi => k.block i (h.lt i hi) (by simp)
theorem Parts.drew (h : Parts w r m b c g F M) : Parts w.drew r m b c g F M := h.keep fun _ _ => rfl
theorem Parts.alloc (h : Parts w r m b c g F M) (o : Obj) : Parts (w.alloc o) r m b c g F M := h.keep fun i hi => Below.heap_alloc w o i (h.lt i hi)
/-- The disk's own block is set anew. -/
theorem Parts.set (h : Parts w r m b c g F M) (k : w.grownBy w' (some r)) {off : Bool} {fuse : Int} (hf : -9223372036854775808 ≤ fuse ∧ fuse ≤ 9223372036854775807) (h' : w'.heap[r]? = some (.cells (cells b M.lasts.length c m off fuse) 76 (0, 0))) :
    Parts w' r m b c g F { M with off := off, fuse := fuse } := by
  have hk : ∀ i, own r m b g M i → i ≠ r → w'.heap[i]? = w.heap[i]? := fun i hi hne => k.block i (h.lt i hi) (fun e => hne (Option.some.inj e))
  refine ⟨⟨h.ok.n, h.ok.lasts, h.ok.waits, h.ok.none, hf⟩, h', h.row.block (hk b (.inr (.inr (.inl rfl))) h.ne_rb.symm), h.map.block (hk m (.inr (.inl rfl)) h.ne_rm.symm), h.idle, fun i hi hw => ?_, h.apart, h.inj⟩
  obtain ⟨ci, h1, h2⟩ := h.wait i hi hw
  exact ⟨ci, h1, h2.block (hk _ (.inr (.inr (.inr ⟨i, hi, hw, rfl⟩))) (h.ne_gr hi hw))⟩
end
/-- All that was there is as it was, but for blocks of fp. -/
structure Turned (fp : Nat → Prop) (w w' : World) : Prop where
  os : w'.os = w.os
  tape : w'.tape = w.tape
  output : w'.output = w.output
  size : w.heap.size ≤ w'.heap.size
  block : ∀ i, i < w.heap.size → ¬ fp i → w'.heap[i]? = w.heap[i]?
def grow (fp : Nat → Prop) (w w' : World) : Nat → Prop := fun k => fp k ∨ (w.heap.size ≤ k ∧ k < w'.heap.size)
/-- A disk in block r, whose blocks lie in fp. -/
def DiskAt (w : World) (r : Nat) (fp : Nat → Prop) (M : Md) : Prop := (∀ k, fp k → k < w.heap.size) ∧ ∃ m b c g F, Parts w r m b c g F M ∧ ∀ k, own r m b g M k → fp k
section
variable {fp fp' : Nat → Prop} {w w' w'' : World} {r : Nat} {M M' : Md}
theorem Turned.refl (fp : Nat → Prop) (w : World) : Turned fp w w := ⟨rfl, rfl, rfl, Nat.le_refl _, fun _ _ _ => rfl⟩
theorem Turned.trans (h : Turned fp w w') (k : Turned fp w' w'') : Turned fp w w'' :=
  ⟨k.os.trans h.os, k.tape.trans h.tape, k.output.trans h.output, Nat.le_trans h.size k.size, fun i hi h1 => (k.block i (Nat.lt_of_lt_of_le hi h.size) h1).trans (h.block i hi h1)⟩
theorem Turned.andThen (h : Turned fp w w') (k : Turned (grow fp w w') w' w'') : Turned fp w w'' :=
  ⟨k.os.trans h.os, k.tape.trans h.tape, k.output.trans h.output, Nat.le_trans h.size k.size, fun i hi h1 => (k.block i (Nat.lt_of_lt_of_le hi h.size) (fun e => by rcases e with e | e; exact h1 e; omega)).trans (h.block i hi h1)⟩
theorem Turned.mono (h : Turned fp w w') (k : ∀ i, fp i → fp' i) : Turned fp' w w' := ⟨h.os, h.tape, h.output, h.size, fun i hi h1 => h.block i hi fun e => h1 (k i e)⟩
theorem Turned.of_below {B : Nat} (h : Below B w w') (hB : w.heap.size ≤ B) : Turned fp w w' := ⟨h.os, h.tape, h.output, h.size, fun i hi _ => h.block i (by omega)⟩
theorem Turned.of_grown {b : Nat} (h : w.grownBy w' (some b)) (hb : fp b ∨ w.heap.size ≤ b) : Turned fp w w' :=
  ⟨h.os, h.tape, h.output, h.size, fun i hi h1 => h.block i hi (fun e => by have := Option.some.inj e; subst this; rcases hb with hb | hb; exact h1 hb; omega)⟩
theorem Turned.of_grown0 (h : w.grownBy w' none) : Turned fp w w' := ⟨h.os, h.tape, h.output, h.size, fun i hi _ => h.block i hi (by simp)⟩
theorem Turned.of_map {b : Nat} (h : w.mapTurned w' b) (hb : fp b ∨ w.heap.size ≤ b) : Turned fp w w' := Turned.of_grown h.grown hb
theorem Turned.drew (h : Turned fp w w') : Turned fp w w'.drew := ⟨h.os, h.tape, h.output, h.size, h.block⟩
theorem Turned.drewN (h : Turned fp w w') (n : Nat) : Turned fp w (w'.drewN n) := ⟨h.os, h.tape, h.output, h.size, h.block⟩
theorem Turned.alloc (h : Turned fp w w') (o : Obj) : Turned fp w (w'.alloc o) := h.trans (of_below ((Below.refl _ w').alloc (Nat.le_refl _) o) (Nat.le_refl _))
theorem Turned.below {B : Nat} (h : Turned fp w w') (hB : ∀ k, fp k → B ≤ k) (hs : B ≤ w.heap.size) : Below B w w' := ⟨h.os, h.tape, h.output, h.size, fun i hi => h.block i (by omega) (fun e => by have := hB i e; omega)⟩
theorem grow_trans (h : w.heap.size ≤ w'.heap.size) (k : w'.heap.size ≤ w''.heap.size) : grow (grow fp w w') w' w'' = grow fp w w'' := by
  funext i
  simp only [grow, eq_iff_iff]
  constructor
  · rintro ((h1 | h1) | h1)
    · exact .inl h1
    · exact .inr ⟨h1.1, by omega⟩
    · exact .inr ⟨by omega, h1.2⟩
  · rintro (h1 | h1)
    · exact .inl (.inl h1)
    · by_cases hi : i < w'.heap.size
      · exact .inl (.inr ⟨h1.1, hi⟩)
      · exact .inr ⟨by omega, h1.2⟩
theorem grow_refl (fp : Nat → Prop) (w : World) : grow fp w w = fp := by
  funext i
  simp only [grow, eq_iff_iff]
  exact ⟨fun h => by rcases h with h | h; exact h; omega, .inl⟩
theorem grow_lt (h : ∀ k, fp k → k < w.heap.size) (hs : w.heap.size ≤ w'.heap.size) : ∀ k, grow fp w w' k → k < w'.heap.size := by
  rintro k (e | e)
  · have := h k e; omega
  · exact e.2
/-- A disk is kept where blocks turn that are not its own. -/
theorem DiskAt.keep (h : DiskAt w r fp M) (k : Turned fp' w w') (hd : ∀ i, fp i → ¬ fp' i) : DiskAt w' r fp M := by
  obtain ⟨h1, m, b, c, g, F, h2, h3⟩ := h
  exact ⟨fun i hi => Nat.lt_of_lt_of_le (h1 i hi) k.size, m, b, c, g, F, h2.keep fun i hi => k.block i (h1 i (h3 i hi)) (hd i (h3 i hi)), h3⟩
theorem DiskAt.below {B : Nat} (h : DiskAt w r fp M) (k : Below B w w') (hB : w.heap.size ≤ B) : DiskAt w' r fp M := h.keep (fp' := fun _ => False) (Turned.of_below k hB) (fun _ _ e => e)
theorem DiskAt.drewN (h : DiskAt w r fp M) (n : Nat) : DiskAt (w.drewN n) r fp M := h.keep (fp' := fun _ => False) ((Turned.refl _ w).drewN n) (fun _ _ e => e)
theorem DiskAt.alloc (h : DiskAt w r fp M) (o : Obj) : DiskAt (w.alloc o) r fp M := h.below ((Below.refl _ w).alloc (Nat.le_refl _) o) (Nat.le_refl _)
theorem DiskAt.wide (h : DiskAt w r fp M) (k : ∀ i, fp i → fp' i) (hl : ∀ i, fp' i → i < w.heap.size) : DiskAt w r fp' M := by
  obtain ⟨h1, m, b, c, g, F, h2, h3⟩ := h
  exact ⟨hl, m, b, c, g, F, h2, fun i hi => k i (h3 i hi)⟩
theorem DiskAt.ok (h : DiskAt w r fp M) : M.Ok := by obtain ⟨_, m, b, c, g, F, h2, _⟩ := h; exact h2.ok
end
end Dk
end Go.Proofs.Ytipfjccmceaclaa
