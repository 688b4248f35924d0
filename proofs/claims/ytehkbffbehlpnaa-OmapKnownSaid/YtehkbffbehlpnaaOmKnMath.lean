/-
  OmapKnown: what its operations do to the maps, by sums, and how a map stands through it.
-/
import Derived.Test.YtehkbffbehlpnaaOmAwake
import Derived.Laws.BytesArg
import Derived.Laws.MakeOwn
namespace Go.Proofs.Ytehkbffbehlpnaa
open Go.RowKit Go.Maps
namespace Om
def opCells : List Ba.Op → List Value
  | [] => []
  | o :: r => .int .u8 (o.k : Int) :: .string o.p :: .string o.v :: opCells r
theorem opCells_at : ∀ {ops : List Ba.Op} {k : Nat} (h : k < ops.length), (opCells ops)[k * 3]? = some (.int .u8 (ops[k].k : Int)) ∧ (opCells ops)[k * 3 + 1]? = some (.string ops[k].p) ∧ (opCells ops)[k * 3 + 2]? = some (.string ops[k].v)
  | o :: r, 0, _ => ⟨rfl, rfl, rfl⟩
  | o :: r, k + 1, h => by
    have := opCells_at (ops := r) (k := k) (by simpa using h)
    rw [show (k + 1) * 3 = k * 3 + 3 by omega]
    exact this
theorem opList {w : World} {b : Nat} {ops : List Ba.Op} (h : w.heap[b]? = some (.cells (opCells ops).toArray 52 (0, 0))) : Ba.listAt w (some ⟨b, 0, none⟩) ops := by
  refine .inr ⟨b, 0, rfl, Sm.lt_of h, fun k hk => ?_⟩
  obtain ⟨h0, h1, h2⟩ := opCells_at hk
  rw [Nat.zero_add]
  exact ⟨Sm.cells_of h _ _ (by simpa using h0), Sm.cells_of h _ _ (by simpa using h1), Sm.cells_of h _ _ (by simpa using h2)⟩
/-- A map stands through it: of l, at r. -/
structure Kn (w W : World) (N r : Nat) (l : List Pr) : Prop where
  m : Lies W r l
  bel : Below N w W
  nr : N ≤ r
section
variable {w W W' : World} {N r : Nat} {l l' : List Pr}
theorem Kn.low (h : Kn w W N r l) : N ≤ W.heap.size := Nat.le_trans h.nr (Nat.le_of_lt h.m.lt)
theorem Kn.step (h : Kn w W N r l) (g : Below W.heap.size W W') : Kn w W' N r l := ⟨h.m.below g, h.bel.trans (g.mono h.low), h.nr⟩
theorem Kn.does (h : Kn w W N r l) (ops : List Ba.Op) {E : Nat} (hE : doE l ops = (l', E)) (I : Int) (hI : (E : Int) = I) (n : Nat) (hn : ops.length = n) (hn2 : n ≤ 4096) (hok : ∀ o ∈ ops, o.Ok ∧ o.p.size ≤ 281474976710656) (cs : Array Value) (hcs : (opCells ops).toArray = cs) :
    Calls Try.prog 17 #[.pointer (some ⟨r, 0, none⟩), .slice (some ⟨W.heap.size, 0, none⟩) n n] (W.alloc (.cells cs 52)) fun e w' => e = .returned (.int .i64 I) ∧ Kn w w' N r l' := by
  have g : Below W.heap.size W (W.alloc (.cells cs 52)) := (Below.refl _ W).alloc (Nat.le_refl _) _
  have h2 := h.step g
  subst hn hI hcs
  have := omDo_lies h2.m ops.length (opList (heap_alloc_new W (.cells (opCells ops).toArray 52))) (by omega) (fun o ho => (hok o ho).1) (fun o ho => (hok o ho).2)
  rw [hE] at this
  refine this.mono fun e w' ⟨h3, h4, h5⟩ => ⟨h3, h4, h2.bel.grown h5 h2.low (fun q hq => by cases hq; exact h2.nr), h2.nr⟩
end
theorem getWX {W : World} {cs : Array Value} {t : TypeId} : (W.alloc (.cells cs t)).heap[W.heap.size]? = some (.cells cs t (0, 0)) := heap_alloc_new W _
def prCells : List Pr → List Value
  | [] => []
  | x :: r => .string x.p :: .string x.v :: prCells r
theorem prCells_at : ∀ {l : List Pr} {k : Nat} (h : k < l.length), (prCells l)[k * 2]? = some (.string l[k].p) ∧ (prCells l)[k * 2 + 1]? = some (.string l[k].v)
  | x :: r, 0, _ => ⟨rfl, rfl⟩
  | x :: r, k + 1, h => by
    have := prCells_at (l := r) (k := k) (by simpa using h)
    rw [show (k + 1) * 2 = k * 2 + 2 by omega]
    exact this
theorem prList {w : World} {b : Nat} {l : List Pr} (h : w.heap[b]? = some (.cells (prCells l).toArray 62 (0, 0))) : listAt w (some ⟨b, 0, none⟩) l := by
  refine .inr ⟨b, 0, rfl, Sm.lt_of h, fun k hk => ?_⟩
  obtain ⟨h0, h1⟩ := prCells_at hk
  unfold prAt
  rw [Nat.zero_add]
  exact ⟨Sm.cells_of h _ _ (by simpa using h0), Sm.cells_of h _ _ (by simpa using h1)⟩
/-- Of, of pairs that make no map. -/
theorem ofBad {W : World} (l : List Pr) {E : Nat} (hE : (ofE l).2 = E) (h0 : E ≠ 0) (I : Int) (hI : (E : Int) = I) (n : Nat) (hn : l.length = n) (hn2 : n ≤ 4096) (hs : ∀ x ∈ l, x.p.size ≤ 281474976710656) (cs : Array Value) (hcs : (prCells l).toArray = cs) :
    Calls Try.prog 14 #[.slice (some ⟨W.heap.size, 0, none⟩) n n] (W.alloc (.cells cs 62)) fun e w' => e = .returned (.tuple #[.pointer none, .int .i64 I]) ∧ Below W.heap.size W w' := by
  have g : Below W.heap.size W (W.alloc (.cells cs 62)) := (Below.refl _ W).alloc (Nat.le_refl _) _
  subst hn hI hcs
  have := omOf_lies l.length (prList (heap_alloc_new W (.cells (prCells l).toArray 62))) (by omega) hs
  rw [hE] at this
  refine this.mono fun e w' ⟨v, h1, h2, _, h4⟩ => ⟨by rw [h1, h2 h0], g.trans (h4.mono g.size)⟩
def tX : ByteArray := ⟨#[65, 112, 112, 47, 120]⟩
def tApp : ByteArray := ⟨#[97, 112, 112]⟩
def tAA : ByteArray := ⟨#[97, 112, 112, 47, 97, 97]⟩
def tZZ : ByteArray := ⟨#[97, 112, 112, 47, 122, 122]⟩
def t9 : ByteArray := ⟨#[57]⟩
def xOps : List Ba.Op := [⟨1, tX, t1⟩]
def lOps : List Ba.Op := [⟨1, tA, t1⟩, ⟨1, tA, t1⟩, ⟨1, tA, t1⟩, ⟨1, tA, t1⟩, ⟨1, tA, t1⟩]
theorem kX : doE wRow xOps = (wRow, 20) := by
  have h : Ba.right ⟨1, 1, xOps⟩ = 20 := by kernel_rfl
  rw [doE_bad (by rw [h]; decide), h]
theorem kL : doE wRow lOps = (wRow, 3) := by
  have h : Ba.right ⟨1, 1, lOps⟩ = 3 := by kernel_rfl
  rw [doE_bad (by rw [h]; decide), h]
theorem kThere : (ofE [⟨tA, ⟨#[]⟩⟩, ⟨tA, ⟨#[]⟩⟩]).2 = 5 := by kernel_rfl
theorem kArg : (ofE [⟨tApp, ⟨#[]⟩⟩]).2 = 1 := by kernel_rfl
def kMany : List Pr := List.replicate 49 ⟨⟨#[]⟩, ⟨#[]⟩⟩
theorem kFull : (ofE kMany).2 = 6 := by kernel_rfl
theorem make49 : ∃ M : Array Value, (prCells kMany).toArray = M ∧ ∀ W : World, (Instr.makeSlice 22 (.int .i64 49) (.int .i64 49)).run Try.prog W = .ok (.slice (some ⟨W.heap.size, 0, none⟩) 49 49) (W.alloc (.cells M 62)) := by
  refine ⟨_, rfl, fun W => ?_⟩
  obtain ⟨i0, hi, hz0, hz1, hz2⟩ := info_parts pr_info
  have hr := run_make (P := Try.prog) W 22 62 i0 _ Try.underlying22 hi hz0 .i64 .i64 49 49 (by omega) (by omega) (by rw [hz2]; decide) (by omega)
  rw [hz1] at hr
  rw [show (49 : Int).toNat = 49 from rfl, show madeCells (Value.agg #[.string ⟨#[]⟩, .string ⟨#[]⟩]).cells (49 * 2) = (prCells kMany).toArray from by kernel_rfl] at hr
  exact hr
theorem wFiltRow : filt (ships Pa.twoL) wRow = [⟨tC, t3⟩] := by kernel_rfl
/-- The keys of the second map. -/
def key2 (i : Nat) : ByteArray := ⟨#[97, 112, 112, 47, UInt8.ofNat (97 + i % 24), UInt8.ofNat (97 + i / 24)]⟩
def kOp (i : Nat) : Ba.Op := ⟨1, key2 i, t1⟩
def kRow : Nat → List Pr
  | 0 => []
  | i + 1 => put (key2 i) t1 (kRow i)
theorem kRight : ((List.range 48).all fun i => decide (Ba.right ⟨1, 1, [kOp i]⟩ = 0)) = true := by kernel_rfl
theorem kRow_length : ∀ i, (kRow i).length ≤ i
  | 0 => Nat.le_refl _
  | i + 1 => by
    have := kRow_length i
    show (put _ _ _).length ≤ _
    rw [put_length]
    split <;> omega
theorem kDo {i : Nat} (h : i < 48) : doE (kRow i) [kOp i] = (kRow (i + 1), 0) := by
  have h1 : Ba.right ⟨1, 1, [kOp i]⟩ = 0 := of_decide_eq_true (List.all_eq_true.1 kRight i (List.mem_range.2 h))
  have h2 : does (kRow i) [kOp i] = kRow (i + 1) := rfl
  rw [doE_ok h1 (by rw [h2]; have := kRow_length (i + 1); omega), h2]
theorem kOk (j : Nat) : ∀ o ∈ [kOp j], o.Ok ∧ o.p.size ≤ 281474976710656 := by
  intro o ho
  simp only [List.mem_cons, List.not_mem_nil, or_false] at ho
  subst ho
  exact ⟨⟨by show 1 < 256; decide, by show 6 ≤ _; decide, by show 1 ≤ _; decide⟩, by show 6 ≤ _; decide⟩
theorem key2_eq (j : Nat) : (⟨#[97, 112, 112, 47]⟩ : ByteArray) ++ Go.strOfNums [97 + (j : Int) % 24, 97 + (j : Int) / 24] = key2 j := by
  have e1 : (97 + (j : Int) % 24).toNat = 97 + j % 24 := by omega
  have e2 : (97 + (j : Int) / 24).toNat = 97 + j / 24 := by omega
  apply ByteArray.ext
  rw [ByteArray.data_append]
  unfold Go.strOfNums key2
  simp only [List.map_cons, List.map_nil, e1, e2]
  rfl
theorem kConv (j : Nat) : ∃ S : ByteArray, (∀ W : World, (convert 68 9 (.slice (some ⟨W.heap.size, 0, none⟩) 2 2)).run Try.prog (W.alloc (.cells #[.int .u8 (97 + (j : Int) % 24), .int .u8 (97 + (j : Int) / 24)] 5)) = .ok (.string S) (W.alloc (.cells #[.int .u8 (97 + (j : Int) % 24), .int .u8 (97 + (j : Int) / 24)] 5))) ∧
    ∀ W : World, (Go.Op.stringOp .add ⟨#[97, 112, 112, 47]⟩ S).run Try.prog W = .ok (.string (key2 j)) W := by
  refine ⟨Go.strOfNums [97 + (j : Int) % 24, 97 + (j : Int) / 24], fun W => ?_, fun W => ?_⟩
  · refine run_convert_bytes_arg _ 68 5 Try.underlying68 Try.underlying5 W.heap.size 0 2 2 _ rfl (fun i hi => ?_) 9 Try.underlying9
    have z := Sm.cells_of (heap_alloc_new W (.cells #[.int .u8 (97 + (j : Int) % 24), .int .u8 (97 + (j : Int) / 24)] 5))
    obtain rfl | rfl : i = 0 ∨ i = 1 := by omega
    · exact z 0 _ rfl
    · exact z 1 _ rfl
  · have := run_string_add_sum (P := Try.prog) W ⟨#[97, 112, 112, 47]⟩ (Go.strOfNums [97 + (j : Int) % 24, 97 + (j : Int) / 24]) (by rw [Go.strOfNums_size]; show 4 + 2 ≤ _; decide)
    rw [this, key2_eq]
def keys48 : List Pr := [⟨⟨#[97, 112, 112, 47, 97, 97]⟩, t1⟩, ⟨⟨#[97, 112, 112, 47, 97, 98]⟩, t1⟩, ⟨⟨#[97, 112, 112, 47, 98, 97]⟩, t1⟩, ⟨⟨#[97, 112, 112, 47, 98, 98]⟩, t1⟩, ⟨⟨#[97, 112, 112, 47, 99, 97]⟩, t1⟩, ⟨⟨#[97, 112, 112, 47, 99, 98]⟩, t1⟩, ⟨⟨#[97, 112, 112, 47, 100, 97]⟩, t1⟩, ⟨⟨#[97, 112, 112, 47, 100, 98]⟩, t1⟩, ⟨⟨#[97, 112, 112, 47, 101, 97]⟩, t1⟩, ⟨⟨#[97, 112, 112, 47, 101, 98]⟩, t1⟩, ⟨⟨#[97, 112, 112, 47, 102, 97]⟩, t1⟩, ⟨⟨#[97, 112, 112, 47, 102, 98]⟩, t1⟩, ⟨⟨#[97, 112, 112, 47, 103, 97]⟩, t1⟩, ⟨⟨#[97, 112, 112, 47, 103, 98]⟩, t1⟩, ⟨⟨#[97, 112, 112, 47, 104, 97]⟩, t1⟩, ⟨⟨#[97, 112, 112, 47, 104, 98]⟩, t1⟩, ⟨⟨#[97, 112, 112, 47, 105, 97]⟩, t1⟩, ⟨⟨#[97, 112, 112, 47, 105, 98]⟩, t1⟩, ⟨⟨#[97, 112, 112, 47, 106, 97]⟩, t1⟩, ⟨⟨#[97, 112, 112, 47, 106, 98]⟩, t1⟩, ⟨⟨#[97, 112, 112, 47, 107, 97]⟩, t1⟩, ⟨⟨#[97, 112, 112, 47, 107, 98]⟩, t1⟩, ⟨⟨#[97, 112, 112, 47, 108, 97]⟩, t1⟩, ⟨⟨#[97, 112, 112, 47, 108, 98]⟩, t1⟩, ⟨⟨#[97, 112, 112, 47, 109, 97]⟩, t1⟩, ⟨⟨#[97, 112, 112, 47, 109, 98]⟩, t1⟩, ⟨⟨#[97, 112, 112, 47, 110, 97]⟩, t1⟩, ⟨⟨#[97, 112, 112, 47, 110, 98]⟩, t1⟩, ⟨⟨#[97, 112, 112, 47, 111, 97]⟩, t1⟩, ⟨⟨#[97, 112, 112, 47, 111, 98]⟩, t1⟩, ⟨⟨#[97, 112, 112, 47, 112, 97]⟩, t1⟩, ⟨⟨#[97, 112, 112, 47, 112, 98]⟩, t1⟩, ⟨⟨#[97, 112, 112, 47, 113, 97]⟩, t1⟩, ⟨⟨#[97, 112, 112, 47, 113, 98]⟩, t1⟩, ⟨⟨#[97, 112, 112, 47, 114, 97]⟩, t1⟩, ⟨⟨#[97, 112, 112, 47, 114, 98]⟩, t1⟩, ⟨⟨#[97, 112, 112, 47, 115, 97]⟩, t1⟩, ⟨⟨#[97, 112, 112, 47, 115, 98]⟩, t1⟩, ⟨⟨#[97, 112, 112, 47, 116, 97]⟩, t1⟩, ⟨⟨#[97, 112, 112, 47, 116, 98]⟩, t1⟩, ⟨⟨#[97, 112, 112, 47, 117, 97]⟩, t1⟩, ⟨⟨#[97, 112, 112, 47, 117, 98]⟩, t1⟩, ⟨⟨#[97, 112, 112, 47, 118, 97]⟩, t1⟩, ⟨⟨#[97, 112, 112, 47, 118, 98]⟩, t1⟩, ⟨⟨#[97, 112, 112, 47, 119, 97]⟩, t1⟩, ⟨⟨#[97, 112, 112, 47, 119, 98]⟩, t1⟩, ⟨⟨#[97, 112, 112, 47, 120, 97]⟩, t1⟩, ⟨⟨#[97, 112, 112, 47, 120, 98]⟩, t1⟩]
theorem kRow48 : kRow 48 = keys48 := by kernel_rfl
def fOps : List Ba.Op := [⟨1, tAA, t9⟩, ⟨1, tZZ, t1⟩]
def gOps : List Ba.Op := [⟨1, tZZ, t1⟩, ⟨2, tAA, ⟨#[]⟩⟩]
def last48 : List Pr := does keys48 gOps
theorem kF : doE (kRow 48) fOps = (keys48, 6) := by
  have h : Ba.right ⟨1, 1, fOps⟩ = 0 := by kernel_rfl
  have h2 : (does keys48 fOps).length = 49 := by kernel_rfl
  rw [kRow48, doE_full h (by rw [h2]; decide)]
theorem kG : doE keys48 gOps = (last48, 0) := by
  have h : Ba.right ⟨1, 1, gOps⟩ = 0 := by kernel_rfl
  have h2 : (does keys48 gOps).length = 48 := by kernel_rfl
  rw [doE_ok h (by rw [h2]; decide)]
  rfl
theorem kLast : last48.length = 48 := by kernel_rfl
theorem kNone : doE last48 [] = (last48, 0) := by
  have h : Ba.right ⟨1, 1, []⟩ = 0 := by kernel_rfl
  rw [doE_ok h (by rw [show does last48 [] = last48 from rfl, kLast]; decide)]
  rfl
theorem kV : getV keys48 tAA = t1 := by kernel_rfl
theorem kGet : get tAA keys48 = some t1 := by kernel_rfl
theorem okOf {ops : List Ba.Op} (h : (ops.all fun o => decide (o.k ≤ 255) && decide (o.p.size ≤ 1000) && decide (o.v.size ≤ 1000)) = true) : ∀ o ∈ ops, o.Ok ∧ o.p.size ≤ 281474976710656 := by
  intro o ho
  have := List.all_eq_true.1 h o ho
  simp only [Bool.and_eq_true, decide_eq_true_eq] at this
  obtain ⟨⟨h1, h2⟩, h3⟩ := this
  exact ⟨⟨by omega, by omega, by omega⟩, by omega⟩
end Om
end Go.Proofs.Ytehkbffbehlpnaa
