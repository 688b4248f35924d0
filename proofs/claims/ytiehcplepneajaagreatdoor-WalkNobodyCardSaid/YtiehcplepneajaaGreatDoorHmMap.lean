/-
  A map by hashes, told as a function: looked up, stored into.
-/
import Derived.Test.YtiehcplepneajaaGreatDoorMBase
import Derived.Maps.OwnSet
import Derived.Maps.Ext
import Derived.Maps.RangeWalk
import Derived.WideKeyArr
import Derived.WalkKit
namespace Go.Proofs.YtiehcplepneajaaGreatDoor
open Go.Maps
namespace Hm
/-- An element is told by itself. -/
def hv : Value → Option (DataW Value × List MemPlace) := fun v => some (.held v, [])
abbrev hash (l : List UInt8) : Value := .agg (Lib.byteCells l).toArray
abbrev hkey (l : List UInt8) : Lit := .string l
theorem hkey_inj {a b : List UInt8} (h : hkey a = hkey b) : a = b := by simpa using h
theorem hkey_ne {a b : List UInt8} (h : a ≠ b) : hkey a ≠ hkey b := fun e => h (hkey_inj e)
theorem isKey (l : List UInt8) : WideAt.IsKeyLit (hkey l) := trivial
theorem arr : Go.WideMaps.ArrKey Tryz.prog 36 5 32 := ⟨Tryz.underlying36, by kernel_rfl, by kernel_rfl, by kernel_rfl⟩
theorem keyed : Keyed Tryz.prog 36 := Keyed.of_law arr.law
theorem sizes : ∃ m, Tryz.prog.types.size = m + 1 := ⟨Tryz.prog.types.size - 1, by kernel_rfl⟩
theorem byte_bytes (b : UInt8) : Lit.keyBytes (.int .u8 (b.toNat : Int)) = [b] := by
  have h := b.toNat_lt
  have e : ((b.toNat : Int) % 2 ^ IntKind.u8.bits).toNat = b.toNat := by
    show ((b.toNat : Int) % 2 ^ 8).toNat = _
    omega
  show bytesBE (IntKind.u8.bits / 8) _ = _
  rw [e]
  show (bytesLE 1 b.toNat).reverse = _
  unfold bytesLE bytesLE
  rw [Nat.mod_eq_of_lt h]
  simp
theorem all_bytes : ∀ l : List UInt8, keyBytes (l.map fun b => Lit.int .u8 (b.toNat : Int)) = l
  | [] => rfl
  | b :: r => by
    have ih := all_bytes r
    unfold keyBytes at ih ⊢
    rw [List.map_cons, List.flatMap_cons, ih, byte_bytes]
    rfl
theorem lit_one (d : Nat) (b : UInt8) : Tryz.prog.keyLits (d + 1) 5 [.int .u8 (b.toNat : Int)] = some [.int .u8 (b.toNat : Int)] := by
  have h := b.toNat_lt
  unfold Program.keyLits
  rw [Tryz.underlying5]
  simp only
  rw [if_pos ⟨trivial, by simp [Lit.wf, IntKind.min, IntKind.max, IntKind.signed, IntKind.bits]; omega⟩]
theorem mapM_some {α β : Type} {f : α → Option β} {g : α → β} : ∀ {L : List α}, (∀ x ∈ L, f x = some (g x)) → L.mapM f = some (L.map g)
  | [], _ => rfl
  | x :: r, h => by
    rw [List.mapM_cons, h x (by simp), mapM_some fun y hy => h y (by simp [hy])]
    rfl
theorem lits {l : List UInt8} (hl : l.length = 32) (d : Nat) : Tryz.prog.keyLits (d + 2) 36 (Lib.byteCells l) = some (l.map fun b => Lit.int .u8 (b.toNat : Int)) := by
  unfold Program.keyLits
  rw [Tryz.underlying36]
  have h32 : Tryz.prog.cellsOf 36 = 32 := by kernel_rfl
  have h1 : Tryz.prog.cellsOf 5 = 1 := by kernel_rfl
  have hlen : (Lib.byteCells l).length = 32 := by rw [Lib.byteCells_length, hl]
  simp only
  rw [if_pos (by rw [hlen, h32]), h1]
  rw [mapM_some (g := fun i => [Lit.int .u8 ((l.getD i 0).toNat : Int)])]
  · simp only [Option.map_some, Option.some.injEq]
    have e : ((List.range 32).map fun i => [Lit.int .u8 ((l.getD i 0).toNat : Int)]).flatten = (List.range 32).map fun i => Lit.int .u8 ((l.getD i 0).toNat : Int) := by
      generalize List.range 32 = L
      induction L with
      | nil => rfl
      | cons x r ih => rw [List.map_cons, List.flatten_cons, ih]; rfl
    rw [e]
    apply List.ext_getElem
    · simp [hl]
    · intro j h1 h2
      simp at h1 h2
      simp [List.getD_eq_getElem?_getD, h2]
  · intro i hi
    have hi32 := List.mem_range.1 hi
    have e : ((Lib.byteCells l).drop (i * 1)).take 1 = [.int .u8 ((l.getD i 0).toNat : Int)] := by
      rw [Nat.mul_one]
      apply List.ext_getElem
      · simp [hlen]; omega
      · intro j h1 h2
        simp at h2
        subst h2
        have := Sm.byteCells_get (l := l) (j := i) (by omega)
        simp only [List.getElem_take, List.getElem_drop, Nat.add_zero, List.getElem_cons_zero]
        rw [List.getElem?_eq_some_iff] at this
        exact this.2
    rw [e]
    exact lit_one d _
theorem keyOf_hash {l : List UInt8} (hl : l.length = 32) : keyOf Tryz.prog 36 (hash l) = some (hkey l) := by
  obtain ⟨m, hm⟩ := sizes
  have hkt : Tryz.prog.keyType 36 = true := arr.keyType sizes
  have hf : (hash l).formed Tryz.prog 36 = true := by
    have h32 : Tryz.prog.cellsOf 36 = 32 := by kernel_rfl
    unfold Value.formed
    rw [Tryz.underlying36]
    simp only
    rw [h32, List.size_toArray, Lib.byteCells_length, hl]
    rfl
  unfold keyOf
  rw [Tryz.underlying36]
  simp only
  rw [hkt, hf, if_pos (by rfl), hm]
  have e : (hash l).cells.toList = Lib.byteCells l := by simp [Value.cells]
  rw [e, lits hl m]
  simp only [Option.map_some, all_bytes]
/-- What the map says of hashes. -/
structure Reads (F : List UInt8 → Option Value) (D : DataW Value) : Prop where
  map : IsMap D
  has : ∀ l, l.length = 32 → Maps.has D (hkey l) = (F l).isSome
  at_ : ∀ l v, l.length = 32 → F l = some v → ∀ z, D.atKey (hkey l) z = .held v
theorem Reads.empty : Reads (fun _ => none) (.map []) := ⟨isMap_empty, fun l _ => by simp [Maps.has], fun l v _ h => by cases h⟩
theorem Reads.put {F : List UInt8 → Option Value} {D : DataW Value} (h : Reads F D) (l : List UInt8) (v : Value) : Reads (fun j => if j = l then some v else F j) (D.put (hkey l) (.held v)) := by
  refine ⟨h.map.put _ _, fun j hj => ?_, fun j u hj hu z => ?_⟩
  · by_cases e : j = l
    · subst e
      rw [has_put_same h.map (isKey j)]
      simp
    · rw [has_put_other (hkey_ne e), h.has j hj]
      simp [e]
  · by_cases e : j = l
    · subst e
      rw [atKey_put_same h.map (isKey j)]
      simp at hu
      rw [hu]
    · rw [atKey_put_other (hkey_ne e)]
      simp [e] at hu
      exact h.at_ j u hj hu z
theorem Reads.look {F : List UInt8 → Option Value} {D : DataW Value} (h : Reads F D) {l : List UInt8} (hl : l.length = 32) (z : Value) : D.atKey (hkey l) (.held z) = .held ((F l).getD z) := by
  cases hF : F l with
  | some v => rw [h.at_ l v hl hF]; rfl
  | none => rw [atKey_of_not_has (by rw [h.has l hl, hF]; rfl)]; rfl
/-- Block b is a map by hashes, of at most n entries. -/
def MapAt (w : World) (b n : Nat) (F : List UInt8 → Option Value) : Prop := ∃ D, w.ownsMap Tryz.prog 36 hv b n D ∧ Reads F D
section
variable {t e : TypeId} {w : World} {b n : Nat} {F : List UInt8 → Option Value}
theorem MapAt.lt (h : MapAt w b n F) : b < w.heap.size := by obtain ⟨D, h, _⟩ := h; exact h.lt
theorem MapAt.kind (h : MapAt w b n F) : ∃ es c, w.heap[b]? = some (.map es c) := by obtain ⟨D, ⟨es, c, h, _⟩, _⟩ := h; exact ⟨es, c, h⟩
theorem MapAt.block {w' : World} (h : MapAt w b n F) (hb : w'.heap[b]? = w.heap[b]?) : MapAt w' b n F := by
  obtain ⟨D, ⟨es, c, h, rest⟩, hR⟩ := h
  exact ⟨D, ⟨es, c, hb.trans h, rest⟩, hR⟩
theorem MapAt.made (w : World) : MapAt (w.alloc (.map #[] 0)) w.heap.size 0 (fun _ => none) := ⟨_, World.ownsMap_made w Tryz.prog 36 hv, Reads.empty⟩
/-- m[h]. -/
theorem MapAt.look (h : MapAt w b n F) (ht : Tryz.prog.underlying t = some (.map 36 e)) {z : Value} (hz : (zeroValue e).run Tryz.prog w = .ok z w) {l : List UInt8} (hl : l.length = 32) :
    (Instr.lookup t (.map (some b)) (hash l) false).run Tryz.prog w = .ok ((F l).getD z) w := by
  obtain ⟨D, h, hR⟩ := h
  obtain ⟨v, ps, hrun, hvv⟩ := h.lookup keyed ht hz (show hv z = some (.held z, []) from rfl) (keyOf_hash hl)
  rw [hR.look hl z] at hvv
  simp only [hv, Option.some.injEq, Prod.mk.injEq, DataW.held.injEq] at hvv
  rw [hrun, hvv.1]
/-- m[h] = v. -/
theorem MapAt.store (h : MapAt w b n F) (ht : Tryz.prog.underlying t = some (.map 36 e)) {l : List UInt8} (hl : l.length = 32) (hn : n ≤ 4096) (v : Value) :
    ∃ w', (Instr.mapUpdate t (.map (some b)) (hash l) v).run Tryz.prog w = .ok () w' ∧ MapAt w' b (n + 1) (fun j => if j = l then some v else F j) ∧ w.mapTurned w' b := by
  obtain ⟨D, h, hR⟩ := h
  obtain ⟨w', hrun, ho, hg⟩ := h.store keyed ht (by unfold maxLen; omega) (keyOf_hash hl) (show hv v = some (.held v, []) from rfl)
  exact ⟨w', hrun, ⟨_, ho, hR.put l v⟩, hg⟩
end
end Hm
end Go.Proofs.YtiehcplepneajaaGreatDoor
