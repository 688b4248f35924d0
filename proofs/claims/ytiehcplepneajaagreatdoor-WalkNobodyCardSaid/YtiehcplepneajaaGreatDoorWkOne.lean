/-
  Texts that belong together, laid into one.
-/
import Derived.Test.YtiehcplepneajaaGreatDoorTrEx
import Derived.Test.YtiehcplepneajaaGreatDoorMBase
import Derived.Test.YtiehcplepneajaaGreatDoorHmMap
import Derived.Test.YtiehcplepneajaaGreatDoorDkMap
import Derived.Test.YtiehcplepneajaaGreatDoorOmOwn
import Derived.Test.YtiehcplepneajaaGreatDoorTrE
import Derived.Test.YtiehcplepneajaaGreatDoorTrB
import Derived.Test.YtiehcplepneajaaGreatDoorTrD
import Derived.Maps.OwnSet
import Derived.Maps.Ext
import Derived.Maps.RangeWalk
import Derived.DeepKeys4
import Derived.WalkKit
import Derived.ArgAppend
import Derived.Deep.DeepAppendRoom
import Derived.Shelf.SlIter.Collect
import Derived.Deep.RegionHeld3
import Derived.Shelf.SlSortCmp.QuietGrown
import Derived.Test.YtiehcplepneajaaGreatDoorSortA
import Derived.Shelf.SlSortCmp.NoneTotal
/-
  Walks, as plain data: nodes by their places from the root on, what is asked for, which answers fit, what is staged; and the way to the tree of app/a 1. No program.
-/
namespace Go.Proofs.YtiehcplepneajaaGreatDoor
namespace Wk
open Om (Pr Rises)
open Tr
/-- A place's level, and its number there. -/
def lev (k : Nat) : Nat := if k = 0 then 0 else if k < 3 then 1 else if k < 7 then 2 else if k < 15 then 3 else 4
def num (k : Nat) : Nat := k + 1 - 2 ^ lev k
def pl (v i : Nat) : Nat := 2 ^ v - 1 + i
theorem lev_le (k : Nat) : lev k ≤ 4 := by unfold lev; split <;> (try split) <;> (try split) <;> (try split) <;> omega
theorem pl_lev {v i : Nat} (hv : v ≤ 4) (hi : i < 2 ^ v) : lev (pl v i) = v ∧ num (pl v i) = i ∧ pl v i < 31 := by
  unfold num pl lev
  match v, hv with
  | 0, _ | 1, _ | 2, _ | 3, _ | 4, _ =>
    simp only [Nat.reducePow] at hi ⊢
    refine ⟨?_, ?_, by omega⟩ <;> (repeat' split) <;> omega
theorem lev_pl {k : Nat} (hk : k < 31) : pl (lev k) (num k) = k ∧ num k < 2 ^ lev k := by
  unfold num pl lev
  (repeat' split) <;> simp only [Nat.reducePow] <;> omega
theorem pl_kid (v i : Nat) : pl (v + 1) (2 * i) = 2 * pl v i + 1 ∧ pl (v + 1) (2 * i + 1) = 2 * pl v i + 2 := by
  have h : 1 ≤ 2 ^ v := Nat.one_le_two_pow
  unfold pl
  rw [Nat.pow_succ]
  omega
/-- A base's node. -/
def bn (l : List Pr) (k : Nat) : List UInt8 := nd l (4 - lev k) (num k)
theorem bn_length (l : List Pr) (k : Nat) : (bn l k).length = 32 := nd_length _ _ _
theorem bn_pl (l : List Pr) {v i : Nat} (hv : v ≤ 4) (hi : i < 2 ^ v) : bn l (pl v i) = nd l (4 - v) i := by
  obtain ⟨h1, h2, -⟩ := pl_lev hv hi
  unfold bn
  rw [h1, h2]
/-- What is asked for, with the hashes that are wanted; what is staged; the texts of the answers that fitted. -/
structure St where
  W : Nat → Option (List UInt8)
  P : Nat → Option (List Pr)
  T : List (List UInt8)
def ask (l : List Pr) (S : St) (k : Nat) (h : List UInt8) : St := if bn l k = h then S else { S with W := fun j => if j = k then some h else S.W j }
def start (l : List Pr) (r : List UInt8) : St := ask l ⟨fun _ => none, fun _ => none, []⟩ 0 r
def took (S : St) (k : Nat) (t : List UInt8) : St := { S with W := fun j => if j = k then none else S.W j, T := S.T ++ [t] }
def node (l : List Pr) (S : St) (k : Nat) (a b : List UInt8) : St := ask l (ask l (took S k (innerT a b)) (2 * k + 1) a) (2 * k + 2) b
def pageT (m : List Pr) : List UInt8 := 76 :: Bu.bytes m
def page (S : St) (i : Nat) (m : List Pr) : St := { took S (15 + i) (pageT m) with P := fun j => if j = i then some m else S.P j }
def wants (S : St) : List Nat := (List.range 31).filter fun k => (S.W k).isSome
def partOf (l : List Pr) (S : St) (i : Nat) : List Pr := (S.P i).getD (Bu.part l i)
end Wk
end Go.Proofs.YtiehcplepneajaaGreatDoor

/-
  A map by pairs of numbers (a struct of two ints), told as a function: looked up, stored into, deleted from; how many entries it has.
-/
namespace Go.Proofs.YtiehcplepneajaaGreatDoor
open Go.Maps
namespace Wk
open Hm (hv)
/-- A pair of numbers as a value, as a key. -/
abbrev enc (a : Int × Int) : Value := .agg #[.int .i64 a.1, .int .i64 a.2]
abbrev key (a : Int × Int) : Lit := .string (keyBytes [.int .i64 a.1, .int .i64 a.2])
theorem enc_inj {a b : Int × Int} (h : enc a = enc b) : a = b := by
  obtain ⟨a1, a2⟩ := a
  obtain ⟨b1, b2⟩ := b
  simpa using h
theorem isKey (a : Int × Int) : WideAt.IsKeyLit (key a) := trivial
theorem wide_ask : (match Tryz.prog.underlying 54 with | some (.array _ _) | some (.struct _) => true | _ => false) = true := by kernel_rfl
theorem at_ask : Tryz.prog.keyTypeAt 2 54 = true := by kernel_rfl
theorem tiled_ask : Tryz.prog.tiled 2 54 = true := by kernel_rfl
set_option maxRecDepth 100000 in
theorem law_ask : WideMaps.KeyLaw Tryz.prog 54 := Go.deep_law (m := 2) (by omega) at_ask tiled_ask wide_ask
theorem keyed : Keyed Tryz.prog 54 := Keyed.of_law law_ask
/-- Numbers of 64 bits. -/
def Fits (a : Int × Int) : Prop := (Lit.int .i64 a.1).wf = true ∧ (Lit.int .i64 a.2).wf = true
theorem fits_iff (a : Int × Int) : Fits a ↔ (-9223372036854775808 ≤ a.1 ∧ a.1 ≤ 9223372036854775807) ∧ (-9223372036854775808 ≤ a.2 ∧ a.2 ≤ 9223372036854775807) := by
  unfold Fits
  simp [Lit.wf, IntKind.min, IntKind.max, IntKind.signed, IntKind.bits]
theorem keyOf_ask {a : Int × Int} (h : Fits a) : keyOf Tryz.prog 54 (enc a) = some (key a) := by
  obtain ⟨m, hm⟩ := Hm.sizes
  have hkt : Tryz.prog.keyType 54 = true := by kernel_rfl
  have hcell : Tryz.prog.cellsOf 54 = 2 := by kernel_rfl
  have hci : Tryz.prog.cellsOf 3 = 1 := by kernel_rfl
  have hf : (enc a).formed Tryz.prog 54 = true := by
    unfold Value.formed
    rw [Tryz.underlying54]
    simp only
    rw [hcell]
    rfl
  have hl : ∀ (d : Nat) (n : Int), (Lit.int .i64 n).wf = true → Tryz.prog.keyLits (d + 1) 3 [.int .i64 n] = some [.int .i64 n] := fun d n hn => by
    unfold Program.keyLits
    rw [Tryz.underlying3]
    simp only
    rw [if_pos ⟨trivial, hn⟩]
  have e : (enc a).cells.toList = [.int .i64 a.1, .int .i64 a.2] := rfl
  unfold keyOf
  rw [Tryz.underlying54]
  simp only
  rw [hkt, hf, if_pos (by rfl), hm, e]
  unfold Program.keyLits
  rw [Tryz.underlying54]
  simp only
  rw [if_pos ⟨by rw [hcell]; rfl, by kernel_rfl⟩]
  simp only [List.mapM_cons, List.mapM_nil, hci, List.drop_zero, List.drop_succ_cons, List.take_succ_cons, List.take_zero]
  rw [hl _ _ h.1, hl _ _ h.2]
  rfl
theorem key_inj {a b : Int × Int} (ha : Fits a) (hb : Fits b) (h : key a = key b) : a = b := by
  have h1 := keyOf_ask ha
  have h2 := keyOf_ask hb
  rw [h] at h1
  exact enc_inj (keyed.inj h1 h2)
/-- A place as a pair of numbers. -/
def plc (k : Nat) : Int × Int := ((lev k : Nat), (num k : Nat))
theorem plc_fits {k : Nat} (hk : k < 31) : Fits (plc k) := by
  rw [fits_iff]
  have h1 := lev_le k
  have h2 := (lev_pl hk).2
  have h3 : 2 ^ lev k ≤ 2 ^ 4 := Nat.pow_le_pow_right (by decide) h1
  unfold plc
  simp only
  omega
theorem plc_inj {j k : Nat} (hj : j < 31) (hk : k < 31) (h : plc j = plc k) : j = k := by
  unfold plc at h
  simp only [Prod.mk.injEq] at h
  have h1 := (lev_pl hj).1
  have h2 := (lev_pl hk).1
  have e1 : lev j = lev k := by omega
  have e2 : num j = num k := by omega
  rw [← h1, ← h2, e1, e2]
theorem keyp_ne {j k : Nat} (hj : j < 31) (hk : k < 31) (h : j ≠ k) : key (plc j) ≠ key (plc k) := fun e => h (plc_inj hj hk (key_inj (plc_fits hj) (plc_fits hk) e))
/-- What the map says of places. -/
structure Reads (F : Nat → Option Value) (D : DataW Value) : Prop where
  map : IsMap D
  keys : ∀ kl, Maps.has D kl = true → ∃ k, k < 31 ∧ kl = key (plc k)
  has : ∀ k, k < 31 → Maps.has D (key (plc k)) = (F k).isSome
  at_ : ∀ k v, k < 31 → F k = some v → ∀ z, D.atKey (key (plc k)) z = .held v
theorem Reads.empty : Reads (fun _ => none) (.map []) := ⟨isMap_empty, fun kl h => by simp [Maps.has] at h, fun i _ => by simp [Maps.has], fun i v _ h => by cases h⟩
theorem Reads.put {F : Nat → Option Value} {D : DataW Value} (h : Reads F D) {i : Nat} (hi : i < 31) (v : Value) : Reads (fun j => if j = i then some v else F j) (D.put (key (plc i)) (.held v)) := by
  refine ⟨h.map.put _ _, fun kl hk => ?_, fun j hj => ?_, fun j u hj hu z => ?_⟩
  · by_cases e : kl = key (plc i)
    · exact ⟨i, hi, e⟩
    · rw [has_put_other e] at hk
      exact h.keys kl hk
  · by_cases e : j = i
    · subst e
      rw [has_put_same h.map (isKey _)]
      simp
    · rw [has_put_other (keyp_ne hj hi e), h.has j hj]
      simp [e]
  · by_cases e : j = i
    · subst e
      rw [atKey_put_same h.map (isKey _)]
      simp at hu
      rw [hu]
    · rw [atKey_put_other (keyp_ne hj hi e)]
      simp [e] at hu
      exact h.at_ j u hj hu z
theorem Reads.del {F : Nat → Option Value} {D : DataW Value} (h : Reads F D) {i : Nat} (hi : i < 31) : Reads (fun j => if j = i then none else F j) (D.del (key (plc i))) := by
  refine ⟨h.map.del _, fun kl hk => ?_, fun j hj => ?_, fun j u hj hu z => ?_⟩
  · by_cases e : kl = key (plc i)
    · rw [e, has_del_same] at hk; cases hk
    · rw [has_del_other e] at hk
      exact h.keys kl hk
  · by_cases e : j = i
    · subst e
      rw [has_del_same]
      simp
    · rw [has_del_other (keyp_ne hj hi e), h.has j hj]
      simp [e]
  · by_cases e : j = i
    · simp [e] at hu
    · rw [atKey_del_other (keyp_ne hj hi e)]
      simp [e] at hu
      exact h.at_ j u hj hu z
/-- What is at a pair of numbers. -/
def at2 (F : Nat → Option Value) (a : Int × Int) : Option Value := if 0 ≤ a.1 ∧ a.1 ≤ 4 ∧ 0 ≤ a.2 ∧ a.2 < 2 ^ a.1.toNat then F (pl a.1.toNat a.2.toNat) else none
theorem at2_plc (F : Nat → Option Value) {k : Nat} (hk : k < 31) : at2 F (plc k) = F k := by
  have h1 := lev_le k
  obtain ⟨h2, h3⟩ := lev_pl hk
  unfold at2 plc
  simp only [Int.toNat_natCast]
  rw [if_pos ⟨by omega, by omega, by omega, by exact_mod_cast h3⟩, h2]
theorem plc_of {a : Int × Int} (h : 0 ≤ a.1 ∧ a.1 ≤ 4 ∧ 0 ≤ a.2 ∧ a.2 < 2 ^ a.1.toNat) : pl a.1.toNat a.2.toNat < 31 ∧ plc (pl a.1.toNat a.2.toNat) = a := by
  obtain ⟨h1, h2, h3, h4⟩ := h
  have hi : a.2.toNat < 2 ^ a.1.toNat := by
    have : ((a.2.toNat : Nat) : Int) < ((2 ^ a.1.toNat : Nat) : Int) := by rw [Int.toNat_of_nonneg h3]; exact_mod_cast h4
    exact_mod_cast this
  obtain ⟨e1, e2, e3⟩ := pl_lev (v := a.1.toNat) (by omega) hi
  refine ⟨e3, ?_⟩
  unfold plc
  rw [e1, e2, Int.toNat_of_nonneg h1, Int.toNat_of_nonneg h3]
theorem Reads.look2 {F : Nat → Option Value} {D : DataW Value} (h : Reads F D) {a : Int × Int} (ha : Fits a) (z : Value) : D.atKey (key a) (.held z) = .held ((at2 F a).getD z) ∧ Maps.has D (key a) = (at2 F a).isSome := by
  by_cases hp : 0 ≤ a.1 ∧ a.1 ≤ 4 ∧ 0 ≤ a.2 ∧ a.2 < 2 ^ a.1.toNat
  · obtain ⟨k, hk, rfl⟩ : ∃ k, k < 31 ∧ plc k = a := ⟨_, (plc_of hp).1, (plc_of hp).2⟩
    rw [at2_plc F hk]
    have hh := h.has _ hk
    refine ⟨?_, hh⟩
    cases hF : F k with
    | some v => rw [h.at_ _ v hk hF]; rfl
    | none => rw [atKey_of_not_has (by rw [hh, hF]; rfl)]; rfl
  · have e : at2 F a = none := by unfold at2; rw [if_neg hp]
    have hh : Maps.has D (key a) = false := by
      cases hq : Maps.has D (key a) with
      | false => rfl
      | true =>
        obtain ⟨k, hk, e2⟩ := h.keys _ hq
        have := key_inj ha (plc_fits hk) e2
        have h3 := lev_pl hk
        have h4 := lev_le k
        refine absurd ?_ hp
        rw [this]
        unfold plc
        simp only [Int.toNat_natCast]
        exact ⟨by omega, by omega, by omega, by exact_mod_cast h3.2⟩
    rw [e]
    exact ⟨by rw [atKey_of_not_has hh]; rfl, hh⟩
theorem Reads.size {F : Nat → Option Value} {D : DataW Value} (h : Reads F D) (ht : ∃ es, D = .map es ∧ es.Pairwise (fun p q => p.1 ≠ q.1) ∧ ∀ p ∈ es, WideAt.IsKeyLit p.1) : Maps.size D ≤ 31 := by
  obtain ⟨es, rfl, hp, hkl⟩ := ht
  have hall : ∀ p ∈ es, ∃ i, i < 31 ∧ p.1 = key (plc i) := fun p hp => h.keys p.1 (List.any_eq_true.2 ⟨p, hp, WideAt.sameKey_self (hkl p hp)⟩)
  have hf : ∀ n, n ≤ es.length → ∃ l : List Nat, l.length = n ∧ l.Nodup ∧ ∀ x ∈ l, x < 31 ∧ ∃ j, j < n ∧ ∃ p, es[j]? = some p ∧ p.1 = key (plc x) := by
    intro n
    induction n with
    | zero => exact fun _ => ⟨[], rfl, List.nodup_nil, fun x hx => by cases hx⟩
    | succ n ih =>
      intro hn
      obtain ⟨l, h1, h2, h3⟩ := ih (by omega)
      obtain ⟨i, hi, e⟩ := hall es[n] (List.getElem_mem _)
      refine ⟨i :: l, by simp [h1], List.nodup_cons.2 ⟨fun hm => ?_, h2⟩, fun x hx => ?_⟩
      · obtain ⟨_, j, hj, p, hp1, hp2⟩ := h3 i hm
        have hjl : j < es.length := by omega
        rw [List.getElem?_eq_getElem hjl] at hp1
        have := List.pairwise_iff_getElem.1 hp j n hjl (by omega) hj
        exact this (by rw [Option.some.inj hp1, hp2, e])
      · rcases List.mem_cons.1 hx with rfl | hx
        · exact ⟨hi, n, by omega, es[n], List.getElem?_eq_getElem _, e⟩
        · obtain ⟨h4, j, hj, r⟩ := h3 x hx
          exact ⟨h4, j, by omega, r⟩
  obtain ⟨l, h1, h2, h3⟩ := hf es.length (Nat.le_refl _)
  have := Dk.len_le 31 l h2 fun x hx => (h3 x hx).1
  rw [h1] at this
  simpa [Maps.size] using this
/-- Block b is a map by places. -/
def MapAt (w : World) (b : Nat) (F : Nat → Option Value) : Prop := ∃ D, w.ownsMap Tryz.prog 54 hv b 31 D ∧ Reads F D
section
variable {t e : TypeId} {w : World} {b : Nat} {F : Nat → Option Value}
theorem owns_tight {n : Nat} {D : DataW Value} (h : w.ownsMap Tryz.prog 54 hv b n D) (hR : Reads F D) : w.ownsMap Tryz.prog 54 hv b 31 D := by
  have hs := hR.size (h.entries keyed)
  obtain ⟨es, clock, hb, Ft, hn, hD⟩ := h
  refine ⟨es, clock, hb, Ft, ?_, hD⟩
  rw [hD] at hs
  simpa [Maps.size, length_sorted] using hs
theorem MapAt.lt (h : MapAt w b F) : b < w.heap.size := by obtain ⟨D, h, _⟩ := h; exact h.lt
theorem MapAt.kind (h : MapAt w b F) : ∃ es c, w.heap[b]? = some (.map es c) := by obtain ⟨D, ⟨es, c, h, _⟩, _⟩ := h; exact ⟨es, c, h⟩
theorem MapAt.block {w' : World} (h : MapAt w b F) (hb : w'.heap[b]? = w.heap[b]?) : MapAt w' b F := by
  obtain ⟨D, ⟨es, c, h, rest⟩, hR⟩ := h
  exact ⟨D, ⟨es, c, hb.trans h, rest⟩, hR⟩
theorem MapAt.congr {F' : Nat → Option Value} (h : MapAt w b F) (he : ∀ i, i < 31 → F' i = F i) : MapAt w b F' := by
  obtain ⟨D, h, hR⟩ := h
  exact ⟨D, h, hR.map, hR.keys, fun i hi => by rw [he i hi]; exact hR.has i hi, fun i v hi hv => hR.at_ i v hi ((he i hi).symm.trans hv)⟩
theorem MapAt.made (w : World) : MapAt (w.alloc (.map #[] 0)) w.heap.size (fun _ => none) := ⟨_, (World.ownsMap_made w Tryz.prog 54 hv).mono (Nat.zero_le _), Reads.empty⟩
/-- v, ok := m[a]. -/
theorem MapAt.look_ok (h : MapAt w b F) (ht : Tryz.prog.underlying t = some (.map 54 e)) {z : Value} (hz : (zeroValue e).run Tryz.prog w = .ok z w) {a : Int × Int} (ha : Fits a) :
    (Instr.lookup t (.map (some b)) (enc a) true).run Tryz.prog w = .ok (.tuple #[(at2 F a).getD z, .bool (at2 F a).isSome]) w := by
  obtain ⟨D, h, hR⟩ := h
  obtain ⟨v, ps, hrun, hvv⟩ := h.look_ok keyed ht hz (show hv z = some (.held z, []) from rfl) (keyOf_ask ha)
  obtain ⟨h1, h2⟩ := hR.look2 ha z
  rw [h1] at hvv
  simp only [hv, Option.some.injEq, Prod.mk.injEq, DataW.held.injEq] at hvv
  rw [hrun, hvv.1, h2]
/-- m[k] = v. -/
theorem MapAt.store (h : MapAt w b F) (ht : Tryz.prog.underlying t = some (.map 54 e)) {k : Nat} (hk : k < 31) (v : Value) :
    ∃ w', (Instr.mapUpdate t (.map (some b)) (enc (plc k)) v).run Tryz.prog w = .ok () w' ∧ MapAt w' b (fun j => if j = k then some v else F j) ∧ w.mapTurned w' b := by
  obtain ⟨D, h, hR⟩ := h
  obtain ⟨w', hrun, ho, hg⟩ := h.store keyed ht (by unfold maxLen; omega) (keyOf_ask (plc_fits hk)) (show hv v = some (.held v, []) from rfl)
  exact ⟨w', hrun, ⟨_, owns_tight ho (hR.put hk v), hR.put hk v⟩, hg⟩
/-- delete(m, k). -/
theorem MapAt.drop (h : MapAt w b F) (ht : Tryz.prog.underlying t = some (.map 54 e)) {k : Nat} (hk : k < 31) (ty : TypeId) :
    ∃ w', (Builtin.delete_ #[t, 54] ty #[.map (some b), enc (plc k)]).run Tryz.prog w = .ok (.tuple #[]) w' ∧ MapAt w' b (fun j => if j = k then none else F j) ∧ w.mapTurned w' b := by
  obtain ⟨D, h, hR⟩ := h
  obtain ⟨w', hrun, ho, hg⟩ := h.drop keyed ht (keyOf_ask (plc_fits hk)) ty
  exact ⟨w', hrun, ⟨_, ho, hR.del hk⟩, hg⟩
end
end Wk
end Go.Proofs.YtiehcplepneajaaGreatDoor

/-
  A text more in a row of texts: in place, or in new memory.
-/
namespace Go.Proofs.YtiehcplepneajaaGreatDoor
open Go.RowKit
namespace Wk
theorem own_blk {w : World} {B e size : Nat} {v : Value} {n : Nat} {xs : List Value} (h : w.ownsRow B e size v n xs) {g : Nat} (hg : v.ownBlock = some g) : B ≤ g ∧ g < w.heap.size ∧ ∃ cs f, w.heap[g]? = some (.cells cs e f) := by
  rcases h.2 with ⟨rfl, _⟩ | ⟨g', cap, cur, rfl, h3, h4, h5⟩
  · cases hg
  · obtain rfl : g' = g := by simpa [Value.ownBlock] using hg
    exact ⟨h3, Sm.lt_of h4, cur, _, h4⟩
theorem info3_str : (Tryz.prog.info? 9).map (fun i => (i.zero, i.size, i.bytes)) = some (some (.string ⟨#[]⟩), 1, 16) := by kernel_rfl
theorem own_more {w : World} {B C : Nat} {v : Value} {n : Nat} {xs : List Value} {e size : Nat} (h : w.ownsRow C e size v n xs) (hBC : B ≤ C) : w.ownsRow B e size v n xs := by
  refine ⟨h.1, ?_⟩
  rcases h.2 with h2 | ⟨g, cap, cur, rfl, h3, h4⟩
  · exact .inl h2
  · exact .inr ⟨g, cap, cur, rfl, Nat.le_trans hBC h3, h4⟩
theorem run_append_text {w : World} {B : Nat} {v : Value} {l : List ByteArray} (h : w.ownsRow B 9 1 v l.length (l.map .string)) {s : ByteArray} {N : Nat} (hN : w.cell? ⟨N, 0, none⟩ = some (.string s)) (hroom : l.length ≤ 1099511627776) (hB : B ≤ w.heap.size) (ty : TypeId) :
    ∃ A c w', (Builtin.append_ #[50, 50] ty #[v, .slice (some ⟨N, 0, none⟩) 1 1]).run Tryz.prog w = .ok (.slice A (l ++ [s]).length c) w' ∧ w'.ownsRow B 9 1 (.slice A (l ++ [s]).length c) (l ++ [s]).length ((l ++ [s]).map .string) ∧
      (((∀ g, (Value.slice A (l ++ [s]).length c).ownBlock = some g → v.ownBlock = some g) ∧ w.grownBy w' v.ownBlock) ∨ ((∀ g, (Value.slice A (l ++ [s]).length c).ownBlock = some g → w.heap.size ≤ g) ∧ w.grownBy w' none)) := by
  obtain ⟨i0, hie, hiz, his, hib⟩ := info_parts info3_str
  have hnews : ∀ j u, [Value.string s][j]? = some u → w.cell? ((⟨N, 0, none⟩ : Addr).add j) = some u := by
    intro j u hj
    match j, hj with
    | 0, hj => simp at hj; subst hj; rw [Addr.add_mid]; exact hN
  have hone : ∀ u ∈ [Value.string s], u.oneCell' = true := by intro u hu; simp at hu; subst hu; rfl
  have hl1 : (l ++ [s]).length = l.length + 1 := by simp
  have hm1 : (l ++ [s]).map Value.string = l.map Value.string ++ [.string s] := by simp
  rw [hl1, hm1]
  rcases h.2 with ⟨rfl, h0⟩ | ⟨g, cap, cur, rfl, h3, h4, h5, h6, h7, h8⟩
  · have hl0 : l = [] := List.length_eq_zero_iff.1 h0
    subst hl0
    obtain ⟨v', w', hrun, ho, hg, _⟩ := run_append_own (P := Tryz.prog) w w.heap.size 50 ty 9 i0 _ 1 16 Tryz.underlying50 hie hiz his hib rfl (by decide) (.slice none 0 0) 0 [] (World.ownsRow_nil _ _ _ _) ⟨N, 0, none⟩ 1 1 [.string s] rfl hnews hone (by unfold maxLen; omega) (by omega) (Nat.le_refl _)
    obtain ⟨A, c, rfl⟩ := Sm.own_shape ho
    exact ⟨A, c, w', hrun, own_more ho hB, .inr ⟨fun g hg => (own_blk ho hg).1, hg⟩⟩
  · by_cases hr : l.length + 1 ≤ cap
    · obtain ⟨w', hrun, ho, hg⟩ := run_append_own_spare (P := Tryz.prog) w B 50 ty 9 i0 1 Tryz.underlying50 hie his g l.length cap _ h ⟨N, 0, none⟩ 1 1 [.string s] rfl hnews hone hr
      exact ⟨_, cap, w', hrun, ho, .inl ⟨fun _ h => h, hg⟩⟩
    · obtain ⟨v', w', hrun, ho, hg⟩ := run_append_arg_grows (P := Tryz.prog) w 50 ty 9 i0 _ 1 16 Tryz.underlying50 hie hiz his hib rfl (by decide) ⟨g, 0, none⟩ l.length cap (l.map .string) (by simp)
        (fun j u hj => by
          rw [Addr.add_mid, Nat.zero_add]
          rw [← h8, List.getElem?_take] at hj
          split at hj
          · simp only [World.cell?, h4]; simpa using hj
          · cases hj)
        ⟨N, 0, none⟩ 1 1 [.string s] rfl hnews (by omega) (by unfold maxLen; omega) (by omega)
      obtain ⟨A, c, rfl⟩ := Sm.own_shape ho
      exact ⟨A, c, w', hrun, own_more ho hB, .inr ⟨fun g hg => (own_blk ho hg).1, hg⟩⟩
/-- How a row of texts goes on: in its own block, or in new memory. -/
def Grows (W W1 : World) (v v' : Value) : Prop := ((∀ g, v'.ownBlock = some g → v.ownBlock = some g) ∧ W.grownBy W1 v.ownBlock) ∨ ((∀ g, v'.ownBlock = some g → W.heap.size ≤ g) ∧ W.grownBy W1 none)
theorem wpList_text {w : World} {ops : Array Oper} {rst : List Oper} {o : Oper} {a : Act} {Q : Exit → Act → World → Prop} (hgd : o.guard = none) (s y : Operand)
    (ho : o.op = .call { callee := .builtin .append, args := #[s, y], argTypes := #[50, 50] }) {B : Nat} {A : Option Addr} {c : Nat} {l : List ByteArray} (hs : a.eval s = .slice A l.length c) (h : Om.SRow w B A c l) (x : ByteArray) {N : Nat}
    (hy : a.eval y = .slice (some ⟨N, 0, none⟩) 1 1) (hN : w.cell? ⟨N, 0, none⟩ = some (.string x)) (hl : l.length ≤ 1099511627776) (hB : B ≤ w.heap.size)
    (K : ∀ A' c' w', Om.SRow w' B A' c' (l ++ [x]) → Grows w w' (.slice A l.length c) (.slice A' (l.length + 1) c') → wpList Tryz.prog ops Q rst (a.put o.dst (.slice A' (l.length + 1) c')) w') : wpList Tryz.prog ops Q (o :: rst) a w :=
  wpList_plain hgd fun _ hK => by
    obtain ⟨A', c', w', hr, h1, h2⟩ := run_append_text (v := .slice A l.length c) h hN hl hB o.type
    have e1 : (l ++ [x]).length = l.length + 1 := by simp
    have h3 := hK _ _ (K A' c' w' h1 (by rw [e1] at h2; exact h2))
    unfold Oper.wp execOp
    simp only [ho, resolve, invoke, builtin, Sem.run_bind, Sem.run_pure, Result.andThen_ok, List.map_toArray, List.map_cons, List.map_nil, hs, hy, hr]
    rw [e1]
    exact h3
end Wk
end Go.Proofs.YtiehcplepneajaaGreatDoor

/-
  A walk as it lies: its struct, the base's tree, the two maps, the texts; what its functions turn.
-/
namespace Go.Proofs.YtiehcplepneajaaGreatDoor
open Go.RowKit
namespace Wk
open Om (Pr)
open Tr (Ow hv tx)
def cellsW (rt mw ms : Nat) (root : List UInt8) (A : Option Addr) (n c : Nat) : List Value := .pointer (some ⟨rt, 0, none⟩) :: (Lib.byteCells root ++ [.map (some mw), .map (some ms), .slice A n c])
/-- What a walk's functions may turn. -/
def soft : Obj → Prop
  | .map _ _ => True
  | .cells _ t f => (t = 109 ∨ t = 9) ∧ f = (0, 0)
  | _ => False
structure Turn (w W W' : World) : Prop where
  os : W'.os = W.os
  tape : W'.tape = W.tape
  output : W'.output = W.output
  size : W.heap.size ≤ W'.heap.size
  block : ∀ (i : Nat) (o : Obj), W.heap[i]? = some o → W'.heap[i]? = some o ∨ (w.heap.size ≤ i ∧ soft o ∧ ∃ o', W'.heap[i]? = some o' ∧ soft o')
theorem Turn.refl (w W : World) : Turn w W W := ⟨rfl, rfl, rfl, Nat.le_refl _, fun _ _ h => .inl h⟩
theorem Turn.of_below {w W W' : World} (k : Below W.heap.size W W') : Turn w W W' := ⟨k.os, k.tape, k.output, k.size, fun i _ h => .inl ((k.block i (Sm.lt_of h)).trans h)⟩
theorem Turn.trans {w a b c : World} (h : Turn w a b) (k : Turn w b c) : Turn w a c :=
  ⟨k.os.trans h.os, k.tape.trans h.tape, k.output.trans h.output, Nat.le_trans h.size k.size, fun i o ho => by
    rcases h.block i o ho with h1 | ⟨h1, h2, o', h3, h4⟩
    · exact k.block i o h1
    · rcases k.block i o' h3 with h5 | ⟨_, _, o'', h5, h6⟩
      · exact .inr ⟨h1, h2, o', h5, h4⟩
      · exact .inr ⟨h1, h2, o'', h5, h6⟩⟩
theorem Turn.step {w a b c : World} (h : Turn w a b) (k : Below b.heap.size b c) : Turn w a c := h.trans (.of_below k)
theorem Turn.of_grown {w W W' : World} {q : Option Nat} (g : W.grownBy W' q) (hq : ∀ b, q = some b → w.heap.size ≤ b ∧ ∃ o, W.heap[b]? = some o ∧ soft o ∧ ∃ o', W'.heap[b]? = some o' ∧ soft o') : Turn w W W' :=
  ⟨g.os, g.tape, g.output, g.size, fun i o ho => by
    by_cases e : q = some i
    · obtain ⟨h1, o1, h2, h3, h4⟩ := hq i e
      rw [ho] at h2
      cases h2
      exact .inr ⟨h1, h3, h4⟩
    · exact .inl ((g.block i (Sm.lt_of ho) (fun q' => e q'.symm)).trans ho)⟩
theorem Turn.of_map {w W W' : World} {b : Nat} (g : W.mapTurned W' b) (hb : w.heap.size ≤ b) : Turn w W W' := by
  have h0 := g
  obtain ⟨es, c, es', c', h1, h2⟩ := g
  exact .of_grown h0.grown fun q e => by
    cases e
    exact ⟨hb, _, h1, trivial, .map es' c', by rw [h2]; exact ChangeMaps.heap_setBlock_same h1 _, trivial⟩
/-- What lay ahead, and what is no walk's. -/
theorem Turn.below {w W W' : World} (h : Turn w W W') (k : Below w.heap.size w W) : Below w.heap.size w W' :=
  ⟨h.os.trans k.os, h.tape.trans k.tape, h.output.trans k.output, Nat.le_trans k.size h.size, fun i hi => by
    have hw : i < W.heap.size := Nat.lt_of_lt_of_le hi k.size
    have h1 : W.heap[i]? = some W.heap[i] := Array.getElem?_eq_getElem hw
    rcases h.block i _ h1 with h2 | ⟨h2, _⟩
    · rw [h2, ← h1, k.block i hi]
    · omega⟩
theorem Turn.hard {w W W' : World} (h : Turn w W W') {i : Nat} {o : Obj} (ho : W.heap[i]? = some o) (hs : ¬ soft o) : W'.heap[i]? = some o := by
  rcases h.block i o ho with h1 | ⟨_, h1, _⟩
  · exact h1
  · exact absurd h1 hs
theorem pair_hard (cs : Array Value) : ¬ soft (.cells cs 79 (0, 0)) := fun h => by
  rcases h.1 with h | h
  · exact absurd h (by decide)
  · exact absurd h (by decide)
theorem tree_hard (cs : Array Value) : ¬ soft (.cells cs 103 (0, 0)) := fun h => by
  rcases h.1 with h | h
  · exact absurd h (by decide)
  · exact absurd h (by decide)
theorem Turn.ow {w W W' : World} (h : Turn w W W') {r : Nat} {l : List Pr} (o : Ow w W r l) : Ow w W' r l := by
  obtain ⟨S, h1, h2⟩ := o.tree.blk
  exact ⟨⟨o.tree.fit, S, ⟨h.hard h1.cells (tree_hard _), h1.full⟩, fun i hi => by
    obtain ⟨A, c, e, hr⟩ := h2 i hi
    exact ⟨A, c, e, hr.keep fun j cs hj => (h.hard hj (pair_hard cs)).trans hj.symm⟩⟩, h.below o.bel, o.low⟩
theorem Turn.row {w W W' : World} (h : Turn w W W') {N c : Nat} {A : Option Addr} {m : List Pr} (hr : Om.Row W N A c m) : Om.Row W' N A c m := hr.keep fun _ cs hj => (h.hard hj (pair_hard cs)).trans hj.symm
/-- A row of staged pairs, as a map tells it. -/
def StAt (W : World) (P : Nat → Option (List Pr)) (Fs : Nat → Option Value) : Prop := ∀ i, i < 16 → (P i = none → Fs i = none) ∧ ∀ m, P i = some m → ∃ B q, Fs i = some (.slice B m.length q) ∧ Om.Row W 0 B q m
/-- A walk of one's own behind w. -/
structure WAt (w W : World) (r rt mw ms : Nat) (A : Option Addr) (c : Nat) (l : List Pr) (root : List UInt8) (S : St) : Prop where
  len : root.length = 32
  blk : W.heap[r]? = some (.cells (cellsW rt mw ms root A (S.T.map tx).length c).toArray 109 (0, 0))
  ow : Ow w W rt l
  wanted : MapAt W mw (fun k => (S.W k).map hv)
  wlen : ∀ k h, S.W k = some h → h.length = 32
  staged : ∃ Fs, Dk.MapAt Tryz.prog 3 W ms 16 Fs ∧ StAt W S.P Fs
  texts : Om.SRow W w.heap.size A c (S.T.map tx)
  lowr : w.heap.size ≤ r
  loww : w.heap.size ≤ mw
  lows : w.heap.size ≤ ms
  ne : mw ≠ ms
section
variable {w W W' : World} {r rt mw ms : Nat} {A : Option Addr} {c : Nat} {l : List Pr} {root : List UInt8} {S : St}
theorem WAt.step (h : WAt w W r rt mw ms A c l root S) (k : Below W.heap.size W W') : WAt w W' r rt mw ms A c l root S := by
  obtain ⟨Fs, h1, h2⟩ := h.staged
  exact ⟨h.len, (k.block r (Sm.lt_of h.blk)).trans h.blk, h.ow.step k, h.wanted.block (k.block mw h.wanted.lt), h.wlen, ⟨Fs, h1.block (k.block ms h1.lt), fun i hi => ⟨(h2 i hi).1, fun m hm => by
    obtain ⟨B, q, e, hr⟩ := (h2 i hi).2 m hm
    exact ⟨B, q, e, hr.low k⟩⟩⟩, h.texts.low k, h.lowr, h.loww, h.lows, h.ne⟩
theorem WAt.cell (h : WAt w W r rt mw ms A c l root S) : W.cell? ⟨r, 0, none⟩ = some (.pointer (some ⟨rt, 0, none⟩)) ∧ W.cell? ⟨r, 33, none⟩ = some (.map (some mw)) ∧ W.cell? ⟨r, 34, none⟩ = some (.map (some ms)) ∧ W.cell? ⟨r, 35, none⟩ = some (.slice A (S.T.map tx).length c) := by
  have hl : (Lib.byteCells root).length = 32 := by rw [Lib.byteCells_length, h.len]
  have hc : ∀ j, j < 3 → (cellsW rt mw ms root A (S.T.map tx).length c)[33 + j]? = [Value.map (some mw), .map (some ms), .slice A (S.T.map tx).length c][j]? := fun j hj => by
    unfold cellsW
    rw [show 33 + j = (32 + j) + 1 by omega, List.getElem?_cons_succ, List.getElem?_append_right (by omega), hl, show 32 + j - 32 = j by omega]
  refine ⟨Sm.cells_of h.blk 0 _ rfl, Sm.cells_of h.blk 33 _ ?_, Sm.cells_of h.blk 34 _ ?_, Sm.cells_of h.blk 35 _ ?_⟩
  · rw [List.getElem?_toArray]; exact hc 0 (by decide)
  · rw [List.getElem?_toArray]; exact hc 1 (by decide)
  · rw [List.getElem?_toArray]; exact hc 2 (by decide)
theorem WAt.free (h : WAt w W r rt mw ms A c l root S) (o : Nat) : W.frozen? ⟨r, o, none⟩ = false := Sm.free_of h.blk o
theorem WAt.rootAt (h : WAt w W r rt mw ms A c l root S) : W.rangeAt r 1 (Lib.byteCells root) := fun j v hv => by
  have hj : j < (Lib.byteCells root).length := by
    rcases Nat.lt_or_ge j (Lib.byteCells root).length with q | q
    · exact q
    · rw [List.getElem?_eq_none q] at hv; cases hv
  refine Sm.cells_of h.blk (1 + j) _ ?_
  rw [List.getElem?_toArray]
  unfold cellsW
  rw [show 1 + j = j + 1 by omega, List.getElem?_cons_succ, List.getElem?_append_left hj]
  exact hv
/-- The wanted map turned. -/
theorem WAt.turnW {F : Nat → Option (List UInt8)} (h : WAt w W r rt mw ms A c l root S) (hm : MapAt W' mw (fun k => (F k).map hv)) (hl : ∀ k x, F k = some x → x.length = 32) (g : W.mapTurned W' mw) : WAt w W' r rt mw ms A c l root { S with W := F } := by
  have g2 := g.grown
  have t := Turn.of_map g h.loww
  obtain ⟨es, cc, _, _, hk, _⟩ := g
  have hr : r ≠ mw := fun e => by have := h.blk; rw [e, hk] at this; cases this
  obtain ⟨Fs, h1, h2⟩ := h.staged
  refine ⟨h.len, (g2.block r (Sm.lt_of h.blk) (fun e => hr (Option.some.inj e))).trans h.blk, t.ow h.ow, hm, hl, ⟨Fs, h1.block (g2.block ms h1.lt (fun e => h.ne (Option.some.inj e).symm)), fun i hi => ⟨(h2 i hi).1, fun m hm => by
    obtain ⟨B, q, e, hrow⟩ := (h2 i hi).2 m hm
    exact ⟨B, q, e, t.row hrow⟩⟩⟩, ?_, h.lowr, h.loww, h.lows, h.ne⟩
  refine h.texts.keep fun j cs hj => g2.block j (Sm.lt_of hj) fun e => ?_
  have := Option.some.inj e
  subst this
  rw [hk] at hj
  cases hj
theorem string_ne_pair : (9 : TypeId) ≠ 79 := by decide
theorem walk_ne_string : (109 : TypeId) ≠ 9 := by decide
theorem cellsW_set {rt mw ms n c n' c' : Nat} {A A' : Option Addr} (h : root.length = 32) : (cellsW rt mw ms root A n c).toArray.setIfInBounds 35 (.slice A' n' c') = (cellsW rt mw ms root A' n' c').toArray := by
  have hl : (Lib.byteCells root).length = 32 := by rw [Lib.byteCells_length, h]
  unfold cellsW
  rw [List.setIfInBounds_toArray]
  congr 1
  rw [List.set_cons_succ, List.set_append_right _ _ (by omega), hl]
  rfl
theorem Grows.own {W W1 : World} {v v' : Value} (h : Grows W W1 v v') : W.grownBy W1 v.ownBlock := by
  rcases h with h | h
  · exact h.2
  · exact ⟨h.2.os, h.2.tape, h.2.output, h.2.size, fun k hk _ => h.2.block k hk (by simp)⟩
/-- A text more. -/
theorem WAt.putT {W1 : World} {A' : Option Addr} {c' : Nat} {t : List UInt8} (h : WAt w W r rt mw ms A c l root S) (hr : Om.SRow W1 w.heap.size A' c' (S.T.map tx ++ [tx t])) (g : Grows W W1 (.slice A (S.T.map tx).length c) (.slice A' ((S.T.map tx).length + 1) c')) :
    WAt w (W1.setCell ⟨r, 35, none⟩ (.slice A' ((S.T.map tx).length + 1) c')) r rt mw ms A' c' l root { S with T := S.T ++ [t] } ∧ Turn w W (W1.setCell ⟨r, 35, none⟩ (.slice A' ((S.T.map tx).length + 1) c')) := by
  have go := g.own
  have key : ∀ (i : Nat) (o : Obj), W.heap[i]? = some o → (∀ cs, o ≠ .cells cs 9 (0, 0)) → W1.heap[i]? = some o := fun i o ho hne => by
    refine (go.block i (Sm.lt_of ho) fun e => ?_).trans ho
    obtain ⟨-, cs, hcs⟩ := h.texts.blk e.symm
    rw [ho] at hcs
    exact hne cs (Option.some.inj hcs)
  have hb1 := key r _ h.blk (fun cs e => walk_ne_string (Obj.cells.inj e).2.1)
  have t1 : Turn w W W1 := .of_grown go fun b e => by
    obtain ⟨h1, cs, hcs⟩ := h.texts.blk e
    refine ⟨h1, _, hcs, ⟨.inr rfl, rfl⟩, ?_⟩
    have e1 : (S.T.map tx ++ [tx t]).length = (S.T.map tx).length + 1 := by simp
    rcases g with ⟨g1, _⟩ | ⟨_, g2⟩
    · have hn : S.T.map tx ++ [tx t] ≠ [] := by simp
      rcases hr.2 with ⟨_, e2⟩ | ⟨q, cap, cur, e2, _, e3, _⟩
      · exact absurd (List.eq_nil_of_length_eq_zero e2) hn
      · rw [e1] at e2
        have e4 := g1 q (by rw [e2]; rfl)
        rw [e] at e4
        cases e4
        exact ⟨_, e3, ⟨.inr rfl, rfl⟩⟩
    · exact ⟨_, (g2.block b (Sm.lt_of hcs) (by simp)).trans hcs, ⟨.inr rfl, rfl⟩⟩
  have hw2 : (W1.setCell ⟨r, 35, none⟩ (.slice A' ((S.T.map tx).length + 1) c')).heap[r]? = some (.cells (cellsW rt mw ms root A' ((S.T.map tx).length + 1) c').toArray 109 (0, 0)) := by
    rw [Sm.heap_set hb1 35 _, cellsW_set h.len]
  have g2 : W1.grownBy (W1.setCell ⟨r, 35, none⟩ (.slice A' ((S.T.map tx).length + 1) c')) (some r) := Sm.grown_set (Sm.grown_refl W1 (some r)) 35 _
  have t2 : Turn w W1 (W1.setCell ⟨r, 35, none⟩ (.slice A' ((S.T.map tx).length + 1) c')) := .of_grown g2 fun b e => by
    cases e
    exact ⟨h.lowr, _, hb1, ⟨.inl rfl, rfl⟩, _, hw2, ⟨.inl rfl, rfl⟩⟩
  have tt := t1.trans t2
  have key2 : ∀ (i : Nat) (o : Obj), W1.heap[i]? = some o → (∀ cs, o ≠ .cells cs 109 (0, 0)) → (W1.setCell ⟨r, 35, none⟩ (.slice A' ((S.T.map tx).length + 1) c')).heap[i]? = some o := fun i o ho hne => by
    refine (g2.block i (Sm.lt_of ho) fun e => ?_).trans ho
    cases e
    rw [hb1] at ho
    exact hne _ (Option.some.inj ho).symm
  obtain ⟨es, cc, hk⟩ := h.wanted.kind
  obtain ⟨Fs, h1, h2⟩ := h.staged
  obtain ⟨es2, cc2, hk2⟩ := h1.kind
  have mk : ∀ (i : Nat) (es : Array MapEntry) (cc : Nat), W.heap[i]? = some (.map es cc) → (W1.setCell ⟨r, 35, none⟩ (.slice A' ((S.T.map tx).length + 1) c')).heap[i]? = W.heap[i]? := fun i es cc hi => (key2 i _ (key i _ hi (fun _ e => by cases e)) (fun _ e => by cases e)).trans hi.symm
  refine ⟨⟨h.len, ?_, tt.ow h.ow, h.wanted.block (mk _ _ _ hk), h.wlen, ⟨Fs, h1.block (mk _ _ _ hk2), fun i hi => ⟨(h2 i hi).1, fun m hm => by
    obtain ⟨B, q, e, hrow⟩ := (h2 i hi).2 m hm
    exact ⟨B, q, e, tt.row hrow⟩⟩⟩, ?_, h.lowr, h.loww, h.lows, h.ne⟩, tt⟩
  · rw [hw2, List.map_append]
    simp
  · rw [List.map_append]
    refine hr.keep fun j cs hj => (key2 j _ hj fun cs e => walk_ne_string (Obj.cells.inj e).2.1.symm).trans hj.symm
/-- Pairs staged. -/
theorem WAt.turnS {P : Nat → Option (List Pr)} {Fs' : Nat → Option Value} (h : WAt w W r rt mw ms A c l root S) (hm : Dk.MapAt Tryz.prog 3 W' ms 16 Fs') (hs : StAt W' P Fs') (g : W.mapTurned W' ms) : WAt w W' r rt mw ms A c l root { S with P := P } := by
  have g2 := g.grown
  have t := Turn.of_map g h.lows
  obtain ⟨es, cc, _, _, hk, _⟩ := g
  have hr : r ≠ ms := fun e => by have := h.blk; rw [e, hk] at this; cases this
  refine ⟨h.len, (g2.block r (Sm.lt_of h.blk) (fun e => hr (Option.some.inj e))).trans h.blk, t.ow h.ow, h.wanted.block (g2.block mw h.wanted.lt (fun e => h.ne (Option.some.inj e))), h.wlen, ⟨Fs', hm, hs⟩, ?_, h.lowr, h.loww, h.lows, h.ne⟩
  refine h.texts.keep fun j cs hj => g2.block j (Sm.lt_of hj) fun e => ?_
  have := Option.some.inj e
  subst this
  rw [hk] at hj
  cases hj
end
end Wk
end Go.Proofs.YtiehcplepneajaaGreatDoor

/-
  What is asked for, collected out of its map: maps.Keys at pairs of numbers, slices.AppendSeq, slices.Collect.
-/
namespace Go.Proofs.YtiehcplepneajaaGreatDoor
open Go.RowKit Go.Maps Go.Sort Go.Shelf
open Hm (hv)
namespace Wk
/-- The places of a map. -/
def places (F : Nat → Option Value) : List Nat := (List.range 31).filter fun k => (F k).isSome
theorem mem_places {F : Nat → Option Value} {k : Nat} : k ∈ places F ↔ k < 31 ∧ (F k).isSome = true := by
  unfold places
  rw [List.mem_filter, List.mem_range]
/-- What has come so far. -/
def Coll (F : Nat → Option Value) (left : Lit → Bool) (ss : List Nat) : Prop := ss.Nodup ∧ ∀ k, k ∈ ss ↔ (k < 31 ∧ (F k).isSome = true ∧ left (key (plc k)) = false)
theorem Coll.start {F : Nat → Option Value} {D : DataW Value} (h : Reads F D) : Coll F (Maps.has D) [] := ⟨List.nodup_nil, fun k => by
  constructor
  · intro h; cases h
  · rintro ⟨h1, h2, h3⟩
    rw [h.has k h1, h2] at h3
    cases h3⟩
theorem Coll.step {F : Nat → Option Value} {left : Lit → Bool} {ss : List Nat} (h : Coll F left ss) {k : Nat} (hk : k < 31) (hF : (F k).isSome = true) (hl : left (key (plc k)) = true) : Coll F (fun z => left z && !z.sameKey (key (plc k))) (ss ++ [k]) := by
  have hnew : k ∉ ss := fun hx => by have := ((h.2 k).1 hx).2.2; rw [hl] at this; cases this
  refine ⟨List.nodup_append.2 ⟨h.1, by simp, fun a ha b hb => by simp at hb; subst hb; exact fun e => hnew (e ▸ ha)⟩, fun y => ?_⟩
  by_cases hy : y = k
  · subst hy
    simp only [List.mem_append, List.mem_singleton, or_true, true_iff]
    exact ⟨hk, hF, by rw [WideAt.sameKey_self (isKey _)]; simp⟩
  · rw [List.mem_append, List.mem_singleton, h.2 y]
    constructor
    · rintro (⟨h1, h2, h3⟩ | e)
      · exact ⟨h1, h2, by show (left (key (plc y)) && _) = false; rw [h3]; rfl⟩
      · exact absurd e hy
    · rintro ⟨h1, h2, h3⟩
      refine .inl ⟨h1, h2, ?_⟩
      change (left (key (plc y)) && !(key (plc y)).sameKey (key (plc k))) = false at h3
      rw [sameKey_ne (keyp_ne h1 hk hy)] at h3
      simpa using h3
theorem Coll.perm {F : Nat → Option Value} {left : Lit → Bool} {ss : List Nat} (h : Coll F left ss) (hl : ∀ kl, left kl = false) : ss.Perm (places F) := by
  refine (List.perm_ext_iff_of_nodup h.1 ((List.nodup_range (n := 31)).sublist List.filter_sublist)).2 fun k => ?_
  have := mem_places (F := F) (k := k)
  unfold places at this
  rw [h.2 k, this, hl]
  simp
theorem Coll.length {F : Nat → Option Value} {left : Lit → Bool} {ss : List Nat} (h : Coll F left ss) {k : Nat} (hk : k < 31) (hl : left (key (plc k)) = true) : ss.length < 31 := by
  have hnew : k ∉ ss := fun hx => by have := ((h.2 k).1 hx).2.2; rw [hl] at this; cases this
  have h1 : (k :: ss).length ≤ 31 := Dk.len_le 31 (k :: ss) (List.nodup_cons.2 ⟨hnew, h.1⟩) fun x hx => by
    rcases List.mem_cons.1 hx with rfl | hx
    · exact hk
    · exact ((h.2 x).1 hx).1
  simp at h1
  omega
theorem grown_alloc (W : World) (o : Obj) : W.grownBy (W.alloc o) none := ⟨rfl, rfl, rfl, by simp, fun k hk _ => Below.heap_alloc _ _ k hk⟩
abbrev vals (k : Nat) : Array Value := #[.int .i64 (plc k).1, .int .i64 (plc k).2]
end Wk
set_option maxRecDepth 100000 in
set_option maxHeartbeats 1000000 in
theorem wkKeys1_in (F : Fence) (n : Nat) (h10 : F.fn 96) (hro : F.round = none) (hn : 1 ≤ n) (l Bm b : Nat) (G : Nat → Option Value) (J : List Nat → World → Prop)
    (hY : ∀ pre x W, J pre W → x < 31 → pre.length < 31 → YieldAt F (n - 1) Tryz.prog l #[Wk.enc (Wk.plc x)] W fun e W' => e = .returned (.bool true) ∧ J (pre ++ [x]) W' ∧ KeepsWalks W W')
    (W : World) (hJ : AbidesFrom W.heap.size J) (hm : W.cell? ⟨Bm, 0, none⟩ = some (.map (some b))) (hown : Wk.MapAt W b G) (h0 : J [] W) :
    CallsIn F n Tryz.prog 96 #[.func (.yield l) #[] #[], .pointer (some ⟨Bm, 0, none⟩)] W fun e W' => (∃ v, e = .returned v) ∧ ∃ ss : List Nat, ss.Perm (Wk.places G) ∧ J ss W' := by
  obtain ⟨D0, hown, hR⟩ := hown
  refine callsIn_of_wp Tryz.func96 rfl h10 ?_ hro
  simp only [Tryz.ntmps96, List.size_toArray, List.length_cons, List.length_nil, Nat.reduceAdd, Nat.reduceSub, Array.replicate_succ, Array.replicate_zero, List.push_toArray, List.append_toArray, List.nil_append, List.cons_append]
  gi_wp2_with (first
    | (gi_at_range; refine wpListIn_range_own _ rfl _ 106 rfl 54 36 Wk.keyed Tryz.underlying106 _ b 31 _ rfl hown ?_; intro w0 hrg0 hg0 hs0)
    | gi_in)
  go_frame
  gi_loopw [3] (fun _ wr => ∃ (left : Lit → Bool) (cnt : Nat) (ss : List Nat), wr.ranges Tryz.prog 54 hv b W.heap.size 31 D0 left cnt ∧ Wk.Coll G left ss ∧ J ss wr)
    (fun _ wr => wr.rangeLeft b W.heap.size)
  case atStart =>
    exact ⟨_, _, [], hrg0, Wk.Coll.start hR, hJ [] W w0 none h0 hg0 (fun r e => by cases e)⟩
  case round =>
    obtain ⟨left, cnt, ss, hrg, hC, hJs⟩ := hrel
    gi_wp2_with (first
      | (gi_at_next; refine wpListIn_next_ranges _ rfl _ rfl 54 Wk.keyed hv id id (fun key _ _ => ⟨key, rfl⟩) (fun v _ _ => ⟨v, rfl⟩) b W.heap.size 31 _ _ _ rfl hrg ?_ ?_)
      | gi_in)
    · intro hc0 hl0
      gi_wp2
      go_end0
      exact ⟨⟨_, rfl⟩, ss, hC.perm hl0, hJs⟩
    · intro x c kl yd yp w2 cnt2 hkey hlk hv hat hrg2 hlt hg2 hs2 hen
      have hh : Maps.has D0 kl = true := has_true_of_atKey hat
      obtain ⟨k, hk, rfl⟩ := hR.keys _ hh
      have hx : x = Wk.enc (Wk.plc k) := Wk.keyed.inj hkey (Wk.keyOf_ask (Wk.plc_fits hk))
      have hF : (G k).isSome = true := (hR.has k hk).symm.trans hh
      have hJ2 : J ss w2 := hJ ss wr w2 (some W.heap.size) hJs hg2 (fun r e => by cases e; exact ⟨Nat.le_refl _, hrg.iter_walk⟩)
      have hJ3 : J ss (w2.alloc (.cells (Wk.vals k) 54)) := hJ ss w2 _ none hJ2 (Wk.grown_alloc _ _) (fun r e => by cases e)
      have hrg3 := hrg2.of_walks (KeepsWalks.alloc w2 (.cells (Wk.vals k) 54))
      obtain ⟨fn, tmps, assign, body, hy, hR'⟩ := hY ss k _ hJ3 hk (hC.length hk hlk)
      have hC2 := hC.step hk hF hlk
      clear hs2 hJ2 hJ3 hF hh hkey hv hat
      change (Instr.entry _).run Tryz.prog w2 = .ok (.tuple #[x, c]) w2 at hen
      rw [hx] at hen ⊢
      gi_wp2
      refine hR'.mono ?_
      rintro e W3 ⟨rfl, hJ4, hk4⟩
      gi_wp2
      have hrg4 := hrg3.of_walks hk4
      go_roundw
      case rel => exact ⟨_, cnt2, ss ++ [k], hrg4, hC2, hJ4⟩
      case measure => rw [hrg4.left_eq, hrg.left_eq]; exact hlt
end Go.Proofs.YtiehcplepneajaaGreatDoor

/-
  What is asked for, collected: slices.AppendSeq, slices.Collect over the keys of the walk's map.
-/
namespace Go.Proofs.YtiehcplepneajaaGreatDoor
open Go.RowKit Go.Maps Go.Sort Go.Shelf
open Hm (hv)
namespace Wk
def cells2 (k : Nat) : List Value := [.int .i64 (plc k).1, .int .i64 (plc k).2]
def flat (l : List Nat) : List Value := l.flatMap cells2
theorem flat_snoc (l : List Nat) (k : Nat) : flat (l ++ [k]) = flat l ++ cells2 k := by unfold flat; rw [List.flatMap_append]; simp
theorem ask_info : (Tryz.prog.info? 54).map (fun i => (i.zero, i.size, i.bytes)) = some (some (.agg #[.int .i64 0, .int .i64 0]), 2, 16) := by kernel_rfl
def apAssign : Code := (Code.region 2 #[{ dst := some 5, op := Op.alloc 54, type := 0, pos := "iter.go:51", after := #[], guard := none }, { dst := none, op := Op.store 54 (Operand.tmp 5) (Operand.tmp 7), type := 0, pos := "iter.go:51", after := #[{ on := 0, ground := Ground.data }, { on := 0, ground := Ground.phase }], guard := none }] false)
def apBody : Code := (Code.block 1 (Code.region 3 #[{ dst := some 8, op := Op.load 44 (Operand.tmp 2), type := 44, pos := "iter.go:52", after := #[], guard := none }, { dst := some 9, op := Op.load 54 (Operand.tmp 5), type := 54, pos := "iter.go:52", after := #[], guard := none }, { dst := some 10, op := Op.buildSlice 44 1 #[(0, Operand.tmp 9)], type := 44, pos := "iter.go:52", after := #[{ on := 1, ground := Ground.data }], guard := none }, { dst := some 11, op := Op.call { callee := Callee.builtin Builtin.append, args := #[Operand.tmp 8, Operand.tmp 10], argTypes := #[44, 44] }, type := 44, pos := "iter.go:52", after := #[{ on := 0, ground := Ground.data }, { on := 2, ground := Ground.data }], guard := none }, { dst := none, op := Op.store 44 (Operand.tmp 2) (Operand.tmp 11), type := 0, pos := "iter.go:52", after := #[{ on := 3, ground := Ground.data }, { on := 3, ground := Ground.chain }, { on := 0, ground := Ground.phase }, { on := 1, ground := Ground.phase }, { on := 2, ground := Ground.phase }, { on := 3, ground := Ground.phase }], guard := none }] false))
def apRec (fn : FuncId) (sv : Value) (Bs D : Nat) (st : LoopState) (pend : Option Code) : Loop :=
  { state := st, pending := pend, fn, tmps := #[.slice none 0 0, sv, .pointer (some ⟨Bs, 0, none⟩), undef, .slice none 0 0, undef, sv, undef, undef, undef, undef, undef, undef], params := #[7], assign := apAssign, body := apBody, defers := D }
/-- Between two rounds. -/
structure ApAt (w0 : World) (fn : FuncId) (sv : Value) (Bs l D : Nat) (ss : List Nat) (W : World) : Prop where
  box : ∃ v, W.heap[Bs]? = some (.cells #[v] 44 (0, 0)) ∧ W.ownsRow w0.heap.size 54 2 v ss.length (flat ss)
  L : W.heap[l]? = some (.loop (apRec fn sv Bs D .ready none))
  K : W.heap[D]? = some (.deferred (some []))
  below : Below w0.heap.size w0 W
theorem ap_abides (w0 : World) (fn : FuncId) (sv : Value) (Bs l D B : Nat) (hB : w0.heap.size ≤ B) : AbidesFrom B (ApAt w0 fn sv Bs l D) := fun s W W' row h hg hrow => by
  have hrow' : ∀ r, row = some r → ∃ o : Obj, W.heap[r]? = some o ∧ o.isWalk = true := fun r e => (hrow r e).2
  obtain ⟨v, hv, hr⟩ := h.box
  exact ⟨⟨v, (grownBy_keeps hg hrow' hv rfl).trans hv, ownsRow_abides_a hr hg hrow'⟩, (grownBy_keeps hg hrow' h.L rfl).trans h.L, (grownBy_keeps hg hrow' h.K rfl).trans h.K,
    h.below.grown hg h.below.size (fun k e => Nat.le_trans hB (hrow k e).1)⟩
theorem asks_ne : (44 : TypeId) ≠ 54 := by decide
set_option maxRecDepth 100000 in
set_option maxHeartbeats 2000000 in
theorem apYield (F : Fence) (m : Nat) (w0 : World) (fn : FuncId) (hfn : F.fn fn) (sv : Value) (Bs l D : Nat) (hBl : Bs ≠ l) (hDl : D ≠ l) (hDB : D ≠ Bs) (h0B : w0.heap.size ≤ Bs) (h0l : w0.heap.size ≤ l)
    (ss : List Nat) (x : Nat) (W : World) (h : ApAt w0 fn sv Bs l D ss W) (hlen : ss.length < 31) :
    YieldAt F m Tryz.prog l #[enc (plc x)] W fun e W' => e = .returned (.bool true) ∧ ApAt w0 fn sv Bs l D (ss ++ [x]) W' ∧ KeepsWalks W W' := by
  have hne := asks_ne
  obtain ⟨i0, hi, hz0, hz1, hz2⟩ := info_parts ask_info
  obtain ⟨v, hv, hrow⟩ := h.box
  refine ⟨fn, #[.slice none 0 0, sv, .pointer (some ⟨Bs, 0, none⟩), undef, .slice none 0 0, undef, sv, enc (plc x), undef, undef, undef, undef, undef], apAssign, apBody, by simpa [apRec] using run_yield (P := Tryz.prog) (args := #[enc (plc x)]) h.L rfl, roundIn_of_wpIn hfn ?_⟩
  -- the loop's variable lies in a block of its own
  obtain ⟨W1, hW1⟩ : ∃ W1, W.alloc (.cells (vals x) 54) = W1 := ⟨_, rfl⟩
  have s1 : W1.heap.size = W.heap.size + 1 := by rw [← hW1]; simp
  have hx1 : W1.heap[W.heap.size]? = some (.cells (vals x) 54 (0, 0)) := by rw [← hW1]; exact World.alloc_heap_new W _
  have old1 : ∀ (j : Nat) (o : Obj), W.heap[j]? = some o → W1.heap[j]? = some o := fun j o ho => by rw [← hW1]; exact (Below.heap_alloc _ _ j (Array.getElem?_eq_some_iff.1 ho).1).trans ho
  have hrow1 : W1.ownsRow w0.heap.size 54 2 v ss.length (flat ss) := by rw [← hW1]; exact hrow.alloc _
  have hb1 : Below w0.heap.size w0 W1 := by rw [← hW1]; exact h.below.alloc h.below.size _
  have hk1 : KeepsWalks W W1 := by rw [← hW1]; exact KeepsWalks.alloc _ _
  have hL1 := old1 _ _ h.L
  have hv1 := old1 _ _ hv
  have hK1 := old1 _ _ h.K
  have hl : l < W1.heap.size := (Array.getElem?_eq_some_iff.1 hL1).1
  have hlV : W.heap.size ≠ l := fun e => by have := (Array.getElem?_eq_some_iff.1 h.L).1; omega
  have hbr := run_beginRound (P := Tryz.prog) hL1 rfl
  obtain ⟨W2, hW2⟩ : ∃ W2, W1.putObj l (.loop { apRec fn sv Bs D .ready none with state := .busy }) = W2 := ⟨_, rfl⟩
  rw [hW2] at hbr
  have hg2 : W1.grownBy W2 (some l) := by rw [← hW2]; exact grownBy_putObj_a _ _ _
  have hk3 : KeepsWalks W W2 := by rw [← hW2]; exact hk1.trans (KeepsWalks.putObj _ hL1 rfl)
  have hv3 : W2.heap[Bs]? = some (.cells #[v] 44 (0, 0)) := by rw [← hW2]; exact (World.putObj_heap_other hBl).trans hv1
  have hK3 : W2.heap[D]? = some (.deferred (some [])) := by rw [← hW2]; exact (World.putObj_heap_other hDl).trans hK1
  have hL3 : W2.heap[l]? = some (.loop { apRec fn sv Bs D .ready none with state := .busy }) := by rw [← hW2]; exact World.putObj_heap_same hl
  have hx3 : W2.heap[W.heap.size]? = some (.cells (vals x) 54 (0, 0)) := by rw [← hW2]; exact (World.putObj_heap_other hlV).trans hx1
  have hrow3 : W2.ownsRow w0.heap.size 54 2 v ss.length (flat ss) := hrow1.kept hg2 (ownsRow_ne_a hrow1 hL1 (fun cur e => by first | cases e | exact hne (Obj.cells.inj e).2.1))
  have hb3 : Below w0.heap.size w0 W2 := hb1.grown hg2 hb1.size (fun k e => by cases e; exact h0l)
  obtain ⟨hc3, hf3⟩ := cell_of_box_a hv3
  have hBlt : Bs < W2.heap.size := (Array.getElem?_eq_some_iff.1 hv3).1
  have hl3 : l < W2.heap.size := (Array.getElem?_eq_some_iff.1 hL3).1
  have hDlt : D < W2.heap.size := (Array.getElem?_eq_some_iff.1 hK3).1
  have x0 := Sm.cells_of hx3 0 _ rfl
  have x1 := Sm.cells_of hx3 1 _ rfl
  have ne_of : ∀ {j : Nat} {o : Obj}, W2.heap[j]? = some o → (∀ cur, o ≠ .cells cur 54 (0, 0)) → some j ≠ v.ownBlock := fun hj hno => by
    rcases ownsRow_ne_a hrow3 hj hno with e | e
    · rw [e]; simp
    · exact fun e' => e e'.symm
  rw [← hW1] at hbr
  clear hW2 hg2 hW1 hx1 old1 hrow1 hb1 hk1 hL1 hv1 hK1 s1
  unfold apAssign
  gi_wp2_with gi_round_op_a
  unfold apBody
  have hnew : ∀ (j : Nat) (u : Value), (cells2 x)[j]? = some u → (W2.alloc (.cells (vals x) 54)).cell? ((⟨W2.heap.size, 0, none⟩ : Addr).add j) = some u := fun j u hu => by
    have hN : (W2.alloc (.cells (vals x) 54)).heap[W2.heap.size]? = some (.cells (vals x) 54 (0, 0)) := World.alloc_heap_new W2 _
    rw [Addr.add_mid, Nat.zero_add]
    match j with
    | 0 => rw [Sm.cells_of hN 0 _ rfl]; exact hu
    | 1 => rw [Sm.cells_of hN 1 _ rfl]; exact hu
    | j + 2 => simp [cells2] at hu
  gi_wp2_with (first
    | (gi_at_builtin; refine wpListIn_append_own _ rfl _ _ 44 rfl w0.heap.size 54 i0 (.agg #[.int .i64 0, .int .i64 0]) 2 16 Tryz.underlying44 hi hz0 hz1 hz2 rfl (by decide) _ _ _ rfl (hrow3.alloc _) ⟨W2.heap.size, 0, none⟩ 1 1 (cells2 x) rfl rfl hnew (by intro u hu; simp only [cells2, List.mem_cons, List.not_mem_nil, or_false] at hu; rcases hu with rfl | rfl <;> rfl) (by unfold maxLen; omega) (by omega) (by have := hb3.size; simp; omega) ?_; intro v' w3 hown' hg3 hnil3
       have hv4 : w3.heap[Bs]? = some (.cells #[v] 44 (0, 0)) := (hg3.block Bs (by simp; omega) (ne_of hv3 (fun cur e => by first | cases e | exact hne (Obj.cells.inj e).2.1))).trans ((Below.heap_alloc _ _ Bs hBlt).trans hv3)
       obtain ⟨hc4, hf4⟩ := cell_of_box_a hv4
       obtain ⟨g', cap', cur', rfl, hbase', hgb', hr1, hr2, hr3, hr4⟩ : ∃ g' cap' cur', v' = .slice (some ⟨g', 0, none⟩) (ss.length + 1) cap' ∧ w0.heap.size ≤ g' ∧ w3.heap[g']? = some (.cells cur' 54 (0, 0)) ∧ ss.length + 1 ≤ cap' ∧ cap' ≤ maxLen ∧ cur'.size = cap' * 2 ∧ cur'.toList.take ((ss.length + 1) * 2) = flat ss ++ cells2 x := by
         rcases hown'.2 with ⟨_, h0⟩ | h'
         · exact absurd h0 (by omega)
         · exact h'
       go_frame)
    | gi_round_op_a)
  have hg3' : (W2.alloc (.cells (vals x) 54)).grownBy w3 v.ownBlock := hg3
  have hL4 : w3.heap[l]? = some (.loop { apRec fn sv Bs D .ready none with state := .busy }) := (hg3'.block l (by simp; omega) (ne_of hL3 (fun cur e => by first | cases e | exact hne (Obj.cells.inj e).2.1))).trans ((Below.heap_alloc _ _ l hl3).trans hL3)
  have hK4 : w3.heap[D]? = some (.deferred (some [])) := (hg3'.block D (by simp; omega) (ne_of hK3 (fun cur e => by first | cases e | exact hne (Obj.cells.inj e).2.1))).trans ((Below.heap_alloc _ _ D hDlt).trans hK3)
  obtain ⟨w4, hw4⟩ : ∃ w4, w3.setCell ⟨Bs, 0, none⟩ (.slice (some ⟨g', 0, none⟩) (ss.length + 1) cap') = w4 := ⟨_, rfl⟩
  rw [hw4]
  have hg4 : w3.grownBy w4 (some Bs) := by rw [← hw4]; exact grownBy_setCell0_a _ _ _
  have hv5 : w4.heap[Bs]? = some (.cells #[.slice (some ⟨g', 0, none⟩) (ss.length + 1) cap'] 44 (0, 0)) := by rw [← hw4]; exact heap_setCell_box_a _ hv4
  have hL5 : w4.heap[l]? = some (.loop { apRec fn sv Bs D .ready none with state := .busy }) := (hg4.block l (Array.getElem?_eq_some_iff.1 hL4).1 (fun e => hBl (by cases e; rfl))).trans hL4
  have hK5 : w4.heap[D]? = some (.deferred (some [])) := (hg4.block D (Array.getElem?_eq_some_iff.1 hK4).1 (fun e => hDB (by cases e; rfl))).trans hK4
  have hrow4 := hown'.kept hg4 (ownsRow_ne_a hown' hv4 (fun cur e => by first | cases e | exact hne (Obj.cells.inj e).2.1))
  have hl4 : l < w4.heap.size := (Array.getElem?_eq_some_iff.1 hL5).1
  have hb4 : Below w0.heap.size w0 w3 := (hb3.alloc hb3.size _).grown hg3' (by have := hb3.size; simp; omega) (fun k e => (hrow3.lt k e).1)
  have hb5 : Below w0.heap.size w0 w4 := hb4.grown hg4 hb4.size (fun k e => by cases e; exact h0B)
  have hk5 : KeepsWalks W w4 := ((hk3.trans (KeepsWalks.alloc _ _)).trans (KeepsWalks.of_grownBy hg3' (ownsRow_not_walk_a (hrow3.alloc _)))).trans (by rw [← hw4]; exact KeepsWalks.setCell _ _ _)
  clear hw4
  refine ⟨_, _, run_endRound none hL5, rfl, ⟨⟨_, (World.putObj_heap_other hBl).trans hv5, ?_⟩, World.putObj_heap_same hl4, (World.putObj_heap_other hDl).trans hK5, hb5.grown (grownBy_putObj_a _ _ _) hb5.size (fun k e => by cases e; exact h0l)⟩, hk5.trans (KeepsWalks.putObj _ hL5 rfl)⟩
  have := hrow4.kept (grownBy_putObj_a w4 l (.loop { { apRec fn sv Bs D .ready none with state := .busy } with state := if (none : Option Code).isNone then .ready else .done, pending := none })) (ownsRow_ne_a hrow4 hL5 (fun cur e => by first | cases e | exact hne (Obj.cells.inj e).2.1))
  rw [flat_snoc, List.length_append]
  exact this
end Wk
set_option maxRecDepth 100000 in
set_option maxHeartbeats 2000000 in
theorem wkAppendSeq_in (F : Fence) (n : Nat) (h11 : F.fn 126) (hFg : F.fn 96) (hro : F.round = none) (hn : 2 ≤ n) (w : World) {Bm b : Nat} {G : Nat → Option Value} (hBm : Bm < w.heap.size) (hm : w.cell? ⟨Bm, 0, none⟩ = some (.map (some b))) (hown : Wk.MapAt w b G) :
    CallsIn F n Tryz.prog 126 #[.slice none 0 0, .func (.func 96) #[] #[.pointer (some ⟨Bm, 0, none⟩)]] w fun e w' => ∃ (v : Value) (ss : List Nat), e = .returned v ∧ ss.Perm (Wk.places G) ∧ w'.ownsRow w.heap.size 54 2 v ss.length (Wk.flat ss) ∧ Below w.heap.size w w' := by
  have h1 : 1 ≤ n := by omega
  have hne := Wk.asks_ne
  refine callsIn_of_wp_marks Tryz.func126 rfl h11 ?_ hro
  simp only [Tryz.ntmps126, List.size_toArray, List.length_cons, List.length_nil, Nat.reduceAdd, Nat.reduceSub, Array.replicate_succ, Array.replicate_zero, List.push_toArray, List.append_toArray, List.nil_append, List.cons_append]
  gi_wp2
  refine wpIn_rangeFunc ?_
  intro fn hfn
  rw [hro]
  obtain ⟨W0, hW0⟩ : ∃ W0, w.alloc (.cells #[.slice none 0 0] 44) = W0 := ⟨_, rfl⟩
  have hs0 : W0.heap.size = w.heap.size + 1 := by rw [← hW0]; simp
  have hv0 : W0.heap[w.heap.size]? = some (.cells #[.slice none 0 0] 44 (0, 0)) := by rw [← hW0]; exact World.alloc_heap_new w _
  have hb0 : Below w.heap.size w W0 := by rw [← hW0]; exact (Below.refl _ w).alloc (Nat.le_refl _) _
  rw [hW0]
  obtain ⟨W1, hW1⟩ : ∃ W1, (W0.alloc (.deferred (some []))).alloc (.loop (Wk.apRec fn (.func (.func 96) #[] #[.pointer (some ⟨Bm, 0, none⟩)]) w.heap.size W0.heap.size .ready none)) = W1 := ⟨_, rfl⟩
  have hold : ∀ k, k < W0.heap.size → W1.heap[k]? = W0.heap[k]? := fun k hk => by
    rw [← hW1]; exact (Below.heap_alloc _ _ k (by simp; omega)).trans (Below.heap_alloc _ _ k hk)
  have hb1 : Below w.heap.size w W1 := by rw [← hW1]; exact (hb0.alloc hb0.size _).alloc (by have := hb0.size; simp; omega) _
  have hs1 : W1.heap.size = W0.heap.size + 2 := by rw [← hW1]; simp
  have hM : Wk.ApAt w fn (.func (.func 96) #[] #[.pointer (some ⟨Bm, 0, none⟩)]) w.heap.size (W0.heap.size + 1) W0.heap.size [] W1 :=
    ⟨⟨_, (hold w.heap.size (by omega)).trans hv0, ⟨rfl, .inl ⟨rfl, rfl⟩⟩⟩,
     by rw [← hW1]; have := World.alloc_heap_new (W0.alloc (.deferred (some []))) (.loop (Wk.apRec fn (.func (.func 96) #[] #[.pointer (some ⟨Bm, 0, none⟩)]) w.heap.size W0.heap.size .ready none)); rwa [World.size_alloc] at this,
     by rw [← hW1]; exact (Below.heap_alloc _ _ _ (by simp)).trans (World.alloc_heap_new W0 _), hb1⟩
  refine ⟨W0.heap.size + 1, [{ target := .collected W0.heap.size, args := #[] }], W1, { target := .fn (.func 96) #[.pointer (some ⟨Bm, 0, none⟩)], args := #[.func (.yield (W0.heap.size + 1)) #[] #[]] }, W1, 96,
    #[.func (.yield (W0.heap.size + 1)) #[] #[]] ++ #[.pointer (some ⟨Bm, 0, none⟩)], W1, ?_, ?_, ?_, ?_, fun _ => h1, ?_⟩
  · rw [← hW1]; exact run_enterLoop_outer _ _ _ _ _
  · simp [resolve, go_sem]
  · intro f' hf'; simp [Target.leads] at hf'; subst hf'; exact hFg
  · simp [invoke, go_sem]
  · refine (wkKeys1_in F (n - 1) hFg hro (by omega) (W0.heap.size + 1) Bm b G (Wk.ApAt w fn (.func (.func 96) #[] #[.pointer (some ⟨Bm, 0, none⟩)]) w.heap.size (W0.heap.size + 1) W0.heap.size)
      (fun pre x W hJ _ hl => Wk.apYield F (n - 1 - 1) w fn hfn _ w.heap.size (W0.heap.size + 1) W0.heap.size (by omega) (by omega) (by omega) (Nat.le_refl _) (by omega) pre x W hJ hl) W1 (Wk.ap_abides _ _ _ _ _ _ _ hb1.size)
      ((hb1.cell (p := ⟨Bm, 0, none⟩) hBm).trans hm) (hown.block (hb1.block b hown.lt)) hM).mono ?_
    rintro e W2 ⟨⟨v0, rfl⟩, ss, hS, h2⟩
    obtain ⟨v, hv, hrow⟩ := h2.box
    have hend := run_endLoop (P := Tryz.prog) h2.L (by simp [Wk.apRec])
    obtain ⟨W3, hW3⟩ : ∃ W3, W2.putObj (W0.heap.size + 1) (.loop { Wk.apRec fn (.func (.func 96) #[] #[.pointer (some ⟨Bm, 0, none⟩)]) w.heap.size W0.heap.size .ready none with state := .exhausted }) = W3 := ⟨_, rfl⟩
    rw [hW3] at hend
    have hg3 : W2.grownBy W3 (some (W0.heap.size + 1)) := by rw [← hW3]; exact grownBy_putObj_a _ _ _
    have hv3 : W3.heap[w.heap.size]? = some (.cells #[v] 44 (0, 0)) := by rw [← hW3]; exact (World.putObj_heap_other (by omega)).trans hv
    have hK3 : W3.heap[W0.heap.size]? = some (.deferred (some [])) := by rw [← hW3]; exact (World.putObj_heap_other (by omega)).trans h2.K
    have hrow3 := hrow.kept hg3 (ownsRow_ne_a hrow h2.L (fun cur e => by first | cases e | exact hne (Obj.cells.inj e).2.1))
    have hb3 : Below w.heap.size w W3 := h2.below.grown hg3 h2.below.size (fun k e => by cases e; omega)
    obtain ⟨hc3, hf3⟩ := cell_of_box_a hv3
    clear hW3
    refine ⟨none, W3, hend, ?_⟩
    gi_wp2
    rw [← hs0]
    refine ⟨by simp, .inl ⟨_, _, rfl, run_takeDeferred hK3, ?_⟩⟩
    exact ⟨_, results_tmp rfl _ _ _, v, ss, rfl, hS, hrow3.kept (grownBy_putObj_a _ _ _) (ownsRow_ne_a hrow3 hK3 (fun cur e => by first | cases e | exact hne (Obj.cells.inj e).2.1)), hb3.grown (grownBy_putObj_a _ _ _) hb3.size (fun k e => by cases e; omega)⟩
set_option maxHeartbeats 1000000 in
theorem wkCollect_in (F : Fence) (n : Nat) (h8 : F.fn 94) (h11 : F.fn 126) (hFg : F.fn 96) (hro : F.round = none) (hn : 3 ≤ n) (w : World) {Bm b : Nat} {G : Nat → Option Value} (hBm : Bm < w.heap.size) (hm : w.cell? ⟨Bm, 0, none⟩ = some (.map (some b))) (hown : Wk.MapAt w b G) :
    CallsIn F n Tryz.prog 94 #[.func (.func 96) #[] #[.pointer (some ⟨Bm, 0, none⟩)]] w fun e w' => ∃ (v : Value) (ss : List Nat), e = .returned v ∧ ss.Perm (Wk.places G) ∧ w'.ownsRow w.heap.size 54 2 v ss.length (Wk.flat ss) ∧ Below w.heap.size w w' := by
  have h1 : 1 ≤ n := by omega
  have e11 := enters_of Tryz.func126 (by kernel_rfl) rfl
  refine callsIn_of_wp Tryz.func94 rfl h8 ?_ hro
  simp only [Tryz.ntmps94, List.size_toArray, List.length_cons, List.length_nil, Nat.reduceAdd, Nat.reduceSub, Array.replicate_succ, Array.replicate_zero, List.push_toArray, List.append_toArray, List.nil_append, List.cons_append]
  gi_wp2_with (gi_at_call 126; refine (wkAppendSeq_in F (n - 1) h11 hFg hro (by omega) w hBm hm hown).mono ?_; rintro e w' ⟨v, ss, rfl, hS, hrow, hb⟩)
  go_ret
  exact ⟨v, ss, rfl, hS, hrow, hb⟩
theorem wkCollect_any {w : World} {Bm b : Nat} {G : Nat → Option Value} (hBm : Bm < w.heap.size) (hm : w.cell? ⟨Bm, 0, none⟩ = some (.map (some b))) (hown : Wk.MapAt w b G) :
    Calls Tryz.prog 94 #[.func (.func 96) #[] #[.pointer (some ⟨Bm, 0, none⟩)]] w fun e w' => ∃ (v : Value) (ss : List Nat), e = .returned v ∧ ss.Perm (Wk.places G) ∧ w'.ownsRow w.heap.size 54 2 v ss.length (Wk.flat ss) ∧ Below w.heap.size w w' :=
  (callsIn_wide (n := 5)).1 (wkCollect_in Fence.wide 5 trivial trivial trivial rfl (by omega) w hBm hm hown)
end Go.Proofs.YtiehcplepneajaaGreatDoor

/-
  What is asked for, compared by level, then by number: cmp.Compare, cmp.Or, byRow.
-/
namespace Go.Proofs.YtiehcplepneajaaGreatDoor
open Go.RowKit Go.Maps Go.Sort Go.Shelf
namespace Wk
def cmpI (x y : Int) : Int := if x < y then -1 else if y < x then 1 else 0
def cmpA (a b : Int × Int) : Int := if cmpI a.1 b.1 = 0 then cmpI a.2 b.2 else cmpI a.1 b.1
end Wk
set_option maxRecDepth 100000 in
theorem wkCmp_any (w : World) (x y : Int) : Calls Tryz.prog 98 #[.int .i64 x, .int .i64 y] w fun e w' => e = .returned (.int .i64 (Wk.cmpI x y)) ∧ w = w' := by
  have hx : (x != x) = false := by simp
  have hy : (y != y) = false := by simp
  by_cases h1 : x < y
  · have e : Wk.cmpI x y = -1 := by unfold Wk.cmpI; rw [if_pos h1]
    rw [e]
    go_enter Tryz.func98, Tryz.ntmps98
    go_wp2
    go_ret
    exact ⟨rfl, rfl⟩
  · by_cases h2 : y < x
    · have e : Wk.cmpI x y = 1 := by unfold Wk.cmpI; rw [if_neg h1, if_pos h2]
      rw [e]
      have h3 : x > y := h2
      go_enter Tryz.func98, Tryz.ntmps98
      go_wp2
      go_ret
      exact ⟨rfl, rfl⟩
    · have e : Wk.cmpI x y = 0 := by unfold Wk.cmpI; rw [if_neg h1, if_neg h2]
      rw [e]
      have h3 : ¬ x > y := h2
      go_enter Tryz.func98, Tryz.ntmps98
      go_wp2
      go_ret
      exact ⟨rfl, rfl⟩
set_option maxRecDepth 100000 in
theorem wkOr_any {w : World} {g : Nat} {a b : Int} (h0 : w.cell? ⟨g, 0, none⟩ = some (.int .i64 a)) (h1 : w.cell? ⟨g, 1, none⟩ = some (.int .i64 b)) :
    Calls Tryz.prog 97 #[.slice (some ⟨g, 0, none⟩) 2 2] w fun e w' => e = .returned (.int .i64 (if a = 0 then b else a)) ∧ w = w' := by
  by_cases ha : a = 0
  · subst ha
    rw [if_pos rfl]
    by_cases hb : b = 0
    · subst hb
      go_enter Tryz.func97, Tryz.ntmps97
      go_wp2
      refine wp_loop_rounds 3 ?_
      rw [rounds_succ]
      go_wp2
      rw [rounds_succ]
      go_wp2
      rw [rounds_succ]
      go_wp2
      go_ret
      exact ⟨rfl, rfl⟩
    · have hbb : (b != 0) = true := by simp [hb]
      go_enter Tryz.func97, Tryz.ntmps97
      go_wp2
      refine wp_loop_rounds 3 ?_
      rw [rounds_succ]
      go_wp2
      rw [rounds_succ]
      go_wp2
      go_ret
      exact ⟨rfl, rfl⟩
  · have haa : (a != 0) = true := by simp [ha]
    rw [if_neg ha]
    go_enter Tryz.func97, Tryz.ntmps97
    go_wp2
    refine wp_loop_rounds 3 ?_
    rw [rounds_succ]
    go_wp2
    go_ret
    exact ⟨rfl, rfl⟩
set_option maxRecDepth 100000 in
set_option maxHeartbeats 2000000 in
theorem wkByRow_any (w : World) (a b : Int × Int) : Calls Tryz.prog 65 #[Wk.enc a, Wk.enc b] w fun e w' => e = .returned (.int .i64 (Wk.cmpA a b)) ∧ ∃ q os', w' = grow (w.drewN q) os' := by
  obtain ⟨N, hN⟩ : ∃ N, N = w.heap.size := ⟨_, rfl⟩
  obtain ⟨w2, hw2⟩ : ∃ w2, w2 = (w.alloc (.cells #[.int .i64 a.1, .int .i64 a.2] 54)).alloc (.cells #[.int .i64 b.1, .int .i64 b.2] 54) := ⟨_, rfl⟩
  have g0 : w2.heap[N]? = some (.cells #[.int .i64 a.1, .int .i64 a.2] 54 (0, 0)) := by rw [hw2, hN, Below.heap_alloc _ _ _ (by simp)]; exact heap_alloc_new _ _
  have g1 : w2.heap[N + 1]? = some (.cells #[.int .i64 b.1, .int .i64 b.2] 54 (0, 0)) := by
    have := heap_alloc_new (w.alloc (.cells #[.int .i64 a.1, .int .i64 a.2] 54)) (.cells #[.int .i64 b.1, .int .i64 b.2] 54)
    rw [hw2, hN]
    simpa using this
  have hN1 : (w.alloc (.cells #[.int .i64 a.1, .int .i64 a.2] 54)).heap.size = N + 1 := by rw [hN]; simp
  have HL0 : Hid (N < w2.drew.heap.size) := Sm.lt_of g0
  have HL1 : Hid (N + 1 < w2.drew.heap.size) := Sm.lt_of g1
  have y0 : w2.drew.cell? ⟨N, 0, none⟩ = some (.int .i64 a.1) := Sm.cells_of g0 0 _ rfl
  have y1 : w2.drew.cell? ⟨N, 1, none⟩ = some (.int .i64 a.2) := Sm.cells_of g0 1 _ rfl
  have y2 : w2.drew.cell? ⟨N + 1, 0, none⟩ = some (.int .i64 b.1) := Sm.cells_of g1 0 _ rfl
  have y3 : w2.drew.cell? ⟨N + 1, 1, none⟩ = some (.int .i64 b.2) := Sm.cells_of g1 1 _ rfl
  have HW2 := Lib.hid hw2
  clear g0 g1
  go_enter Tryz.func65, Tryz.ntmps65
  go_upto_region 1 with (fail)
  rw [← hw2, ← hN]
  clear hw2 hN hN1
  refine wp_region_held_drew (S := fun w' => (w'.cell? ⟨N, 0, none⟩ = some (.int .i64 a.1) ∧ w'.cell? ⟨N, 1, none⟩ = some (.int .i64 a.2)) ∧ w'.cell? ⟨N + 1, 0, none⟩ = some (.int .i64 b.1) ∧ w'.cell? ⟨N + 1, 1, none⟩ = some (.int .i64 b.2)) (by kernel_rfl) ⟨⟨y0, y1⟩, y2, y3⟩ (fun hHeld => ?_)
  refine wpAnyH_take (i := 0) (oi := ⟨some 5, _, _, _, _, _⟩) (v := .pointer (some ⟨N, 0, none⟩)) rfl (by kernel_rfl) (by kernel_rfl) (by kernel_rfl) (fun _ _ _ h => h) (Or.inl ⟨by rfl, ?_⟩) (by assumption) ?_
  · intro w hSw; (try dsimp only at hSw); go_simp
  simp only [Act.put, List.setIfInBounds_toArray, List.set_cons_zero, List.set_cons_succ]
  refine wpAnyH_take (i := 1) (oi := ⟨some 6, _, _, _, _, _⟩) (v := .int .i64 a.1) rfl (by kernel_rfl) (by kernel_rfl) (by kernel_rfl) (fun _ _ _ h => h) (Or.inl ⟨by rfl, ?_⟩) (by assumption) ?_
  · intro w hSw; (try dsimp only at hSw); go_simp
  simp only [Act.put, List.setIfInBounds_toArray, List.set_cons_zero, List.set_cons_succ]
  refine wpAnyH_take (i := 2) (oi := ⟨some 7, _, _, _, _, _⟩) (v := .pointer (some ⟨N + 1, 0, none⟩)) rfl (by kernel_rfl) (by kernel_rfl) (by kernel_rfl) (fun _ _ _ h => h) (Or.inl ⟨by rfl, ?_⟩) (by assumption) ?_
  · intro w hSw; (try dsimp only at hSw); go_simp
  simp only [Act.put, List.setIfInBounds_toArray, List.set_cons_zero, List.set_cons_succ]
  refine wpAnyH_take (i := 3) (oi := ⟨some 8, _, _, _, _, _⟩) (v := .int .i64 b.1) rfl (by kernel_rfl) (by kernel_rfl) (by kernel_rfl) (fun _ _ _ h => h) (Or.inl ⟨by rfl, ?_⟩) (by assumption) ?_
  · intro w hSw; (try dsimp only at hSw); go_simp
  simp only [Act.put, List.setIfInBounds_toArray, List.set_cons_zero, List.set_cons_succ]
  refine wpAnyH_take (i := 5) (oi := ⟨some 10, _, _, _, _, _⟩) (v := .pointer (some ⟨N, 1, none⟩)) rfl (by kernel_rfl) (by kernel_rfl) (by kernel_rfl) (fun _ _ _ h => h) (Or.inl ⟨by rfl, ?_⟩) (by assumption) ?_
  · intro w hSw; (try dsimp only at hSw); go_simp
  simp only [Act.put, List.setIfInBounds_toArray, List.set_cons_zero, List.set_cons_succ]
  refine wpAnyH_take (i := 6) (oi := ⟨some 11, _, _, _, _, _⟩) (v := .int .i64 a.2) rfl (by kernel_rfl) (by kernel_rfl) (by kernel_rfl) (fun _ _ _ h => h) (Or.inl ⟨by rfl, ?_⟩) (by assumption) ?_
  · intro w hSw; (try dsimp only at hSw); go_simp
  simp only [Act.put, List.setIfInBounds_toArray, List.set_cons_zero, List.set_cons_succ]
  refine wpAnyH_take (i := 7) (oi := ⟨some 12, _, _, _, _, _⟩) (v := .pointer (some ⟨N + 1, 1, none⟩)) rfl (by kernel_rfl) (by kernel_rfl) (by kernel_rfl) (fun _ _ _ h => h) (Or.inl ⟨by rfl, ?_⟩) (by assumption) ?_
  · intro w hSw; (try dsimp only at hSw); go_simp
  simp only [Act.put, List.setIfInBounds_toArray, List.set_cons_zero, List.set_cons_succ]
  refine wpAnyH_take (i := 8) (oi := ⟨some 13, _, _, _, _, _⟩) (v := .int .i64 b.2) rfl (by kernel_rfl) (by kernel_rfl) (by kernel_rfl) (fun _ _ _ h => h) (Or.inl ⟨by rfl, ?_⟩) (by assumption) ?_
  · intro w hSw; (try dsimp only at hSw); go_simp
  simp only [Act.put, List.setIfInBounds_toArray, List.set_cons_zero, List.set_cons_succ]
  refine wpAnyH_ready (rs := [4]) (by kernel_rfl) (by simp) ?_
  refine (AllReadyH.cons (o := ⟨some 9, _, _, _, _, _⟩) rfl (fun K hK => ?_) AllReadyH.nil)
  go_simp
  refine (wkCmp_any _ a.1 b.1).mono ?_
  rintro e w3 ⟨rfl, rfl⟩
  refine hK.out _ _ ⟨⟨y0, y1⟩, y2, y3⟩ (fun hHeld => ?_)
  clear hK K
  refine wpAnyH_ready (rs := [9]) (by kernel_rfl) (by simp) ?_
  refine (AllReadyH.cons (o := ⟨some 14, _, _, _, _, _⟩) rfl (fun K hK => ?_) AllReadyH.nil)
  go_simp
  refine (wkCmp_any _ a.2 b.2).mono ?_
  rintro e w3 ⟨rfl, rfl⟩
  refine hK.out _ _ ⟨⟨y0, y1⟩, y2, y3⟩ (fun hHeld => ?_)
  clear hK K
  refine wpAnyH_ready (rs := [10]) (by kernel_rfl) (by simp) ?_
  refine (AllReadyH.cons (o := ⟨some 15, _, _, _, _, _⟩) rfl (fun K hK => ?_) AllReadyH.nil)
  go_simp
  have kk : Below w2.heap.size w2 (w2.alloc (.cells #[.int .i64 (Wk.cmpI a.1 b.1), .int .i64 (Wk.cmpI a.2 b.2)] 3)) := (Below.refl _ _).alloc (Nat.le_refl _) _
  have GN := heap_alloc_new w2 (.cells #[.int .i64 (Wk.cmpI a.1 b.1), .int .i64 (Wk.cmpI a.2 b.2)] 3)
  obtain ⟨w4, hw4⟩ : ∃ x, x = (w2.alloc (.cells #[.int .i64 (Wk.cmpI a.1 b.1), .int .i64 (Wk.cmpI a.2 b.2)] 3)).drew := ⟨_, rfl⟩
  have z0 : w4.cell? ⟨N, 0, none⟩ = some (.int .i64 a.1) := by rw [hw4]; exact (kk.cell (p := ⟨N, 0, none⟩) HL0.out).trans y0
  have z1 : w4.cell? ⟨N, 1, none⟩ = some (.int .i64 a.2) := by rw [hw4]; exact (kk.cell (p := ⟨N, 1, none⟩) HL0.out).trans y1
  have z2 : w4.cell? ⟨N + 1, 0, none⟩ = some (.int .i64 b.1) := by rw [hw4]; exact (kk.cell (p := ⟨N + 1, 0, none⟩) HL1.out).trans y2
  have z3 : w4.cell? ⟨N + 1, 1, none⟩ = some (.int .i64 b.2) := by rw [hw4]; exact (kk.cell (p := ⟨N + 1, 1, none⟩) HL1.out).trans y3
  have v0 : w4.cell? ⟨w2.heap.size, 0, none⟩ = some (.int .i64 (Wk.cmpI a.1 b.1)) := by rw [hw4]; exact Sm.cells_of GN 0 _ rfl
  have v1 : w4.cell? ⟨w2.heap.size, 1, none⟩ = some (.int .i64 (Wk.cmpI a.2 b.2)) := by rw [hw4]; exact Sm.cells_of GN 1 _ rfl
  have OR : Hid (Calls Tryz.prog 97 #[.slice (some ⟨w2.heap.size, 0, none⟩) 2 2] w4 fun e w' => e = .returned (.int .i64 (Wk.cmpA a b)) ∧ w4 = w') := wkOr_any v0 v1
  rw [← hw4]
  have HW4 := Lib.hid hw4
  clear hw4 kk GN v0 v1 y0 y1 y2 y3
  refine hK.out _ _ ⟨⟨z0, z1⟩, z2, z3⟩ (fun hHeld => ?_)
  clear hK K
  refine wpAnyH_ready (rs := [11]) (by kernel_rfl) (by simp) ?_
  refine (AllReadyH.cons (o := ⟨some 16, _, _, _, _, _⟩) rfl (fun K hK => ?_) AllReadyH.nil)
  go_simp
  refine (OR.out).mono ?_
  rintro e w5 ⟨rfl, rfl⟩
  refine hK.out _ _ ⟨⟨z0, z1⟩, z2, z3⟩ (fun hHeld => ?_)
  clear hK K
  refine wpAnyH_take (i := 12) (oi := ⟨some 4, _, _, _, _, _⟩) (v := .int .i64 (Wk.cmpA a b)) rfl (by kernel_rfl) (by kernel_rfl) (by kernel_rfl) (fun _ _ _ h => h) (Or.inl ⟨by rfl, ?_⟩) (by assumption) ?_
  · intro w hSw; (try dsimp only at hSw); go_simp
  simp only [Act.put, List.setIfInBounds_toArray, List.set_cons_zero, List.set_cons_succ]
  refine wpAnyH_done (by kernel_rfl) ?_ _
  go_wp2
  go_ret
  refine ⟨rfl, 1, #[.cells #[.int .i64 a.1, .int .i64 a.2] 54, .cells #[.int .i64 b.1, .int .i64 b.2] 54, .cells #[.int .i64 (Wk.cmpI a.1 b.1), .int .i64 (Wk.cmpI a.2 b.2)] 3], ?_⟩
  rw [HW4.out, HW2.out, alloc_eq_grow, alloc_eq_grow, alloc_eq_grow, grow_grow, grow_grow]
  rfl
end Go.Proofs.YtiehcplepneajaaGreatDoor

/-
  What is asked for, in its row: slices.SortFunc and slices.SortedFunc by byRow.
-/
namespace Go.Proofs.YtiehcplepneajaaGreatDoor
open Go.RowKit Go.Maps Go.Sort Go.Shelf
namespace Wk
theorem cmpI_neg (x y : Int) : cmpI x y < 0 ↔ x < y := by
  unfold cmpI
  split
  · simp [*]
  · split <;> simp_all <;> omega
theorem cmpI_zero (x y : Int) : cmpI x y = 0 ↔ x = y := by
  unfold cmpI
  split
  · constructor
    · intro h; cases h
    · intro h; omega
  · split
    · constructor
      · intro h; cases h
      · intro h; omega
    · constructor
      · intro _; omega
      · intro _; rfl
theorem cmpA_neg (a b : Int × Int) : cmpA a b < 0 ↔ a.1 < b.1 ∨ a.1 = b.1 ∧ a.2 < b.2 := by
  unfold cmpA
  by_cases h : cmpI a.1 b.1 = 0
  · rw [if_pos h, cmpI_neg]
    have := (cmpI_zero _ _).1 h
    omega
  · rw [if_neg h, cmpI_neg]
    have : a.1 ≠ b.1 := fun e => h ((cmpI_zero _ _).2 e)
    omega
def cf (x y : Nat) : Int := cmpA (plc x) (plc y)
theorem lt_cf (x y : Nat) : Go.Proofs.ltOf cf x y = true ↔ (plc x).1 < (plc y).1 ∨ (plc x).1 = (plc y).1 ∧ (plc x).2 < (plc y).2 := by
  unfold Go.Proofs.ltOf cf
  rw [decide_eq_true_eq]
  exact cmpA_neg _ _
theorem lt_cf_no (x y : Nat) : Go.Proofs.ltOf cf x y = false ↔ ¬ ((plc x).1 < (plc y).1 ∨ (plc x).1 = (plc y).1 ∧ (plc x).2 < (plc y).2) := by
  rw [← lt_cf]
  cases Go.Proofs.ltOf cf x y <;> simp
theorem swo : SWO (Go.Proofs.ltOf cf) where
  irrefl x := by rw [lt_cf_no]; omega
  trans x y z h1 h2 := by rw [lt_cf] at *; omega
  ntrans x y z h1 h2 := by rw [lt_cf_no] at *; omega
theorem plc_lt {j k : Nat} (hk : k < 31) (h : j < k) : (plc j).1 < (plc k).1 ∨ (plc j).1 = (plc k).1 ∧ (plc j).2 < (plc k).2 := by
  have key : ∀ k, k < 31 → ∀ j, j < k → lev j < lev k ∨ lev j = lev k ∧ num j < num k := by decide
  have := key k hk j h
  unfold plc
  simp only
  omega
theorem flat_length (l : List Nat) : (flat l).length = l.length * 2 := by
  induction l with
  | nil => rfl
  | cons o r ih =>
    have e : flat (o :: r) = cells2 o ++ flat r := rfl
    have e3 : (cells2 o).length = 2 := rfl
    rw [e, List.length_append, ih, List.length_cons, e3]; omega
theorem flat_at : ∀ {l : List Nat} {k j : Nat} (hk : k < l.length), j < 2 → (flat l)[k * 2 + j]? = (cells2 l[k])[j]?
  | [], _, _, hk, _ => absurd hk (Nat.not_lt_zero _)
  | o :: r, 0, j, _, hj => by
    show (cells2 o ++ flat r)[0 * 2 + j]? = (cells2 o)[j]?
    rw [List.getElem?_append_left (by show 0 * 2 + j < 2; omega)]
    rw [show 0 * 2 + j = j by omega]
  | o :: r, k + 1, j, hk, hj => by
    show (cells2 o ++ flat r)[(k + 1) * 2 + j]? = _
    rw [List.getElem?_append_right (by show 2 ≤ (k + 1) * 2 + j; omega)]
    have e3 : (cells2 o).length = 2 := rfl
    rw [e3, show (k + 1) * 2 + j - 2 = k * 2 + j by omega]
    exact flat_at (l := r) (by simpa using hk) hj
theorem sort_below {w : World} {N g n : Nat} (hg : N ≤ g) (hs : N ≤ w.heap.size) (d : Array Nat) (os : Array Obj) : Below N w (sortWorldK cells2 2 w g 0 n d os) := by
  refine ⟨rfl, rfl, rfl, ?_, fun k hk => ?_⟩
  · unfold sortWorldK grow putRowK putRow mapBlock Sort.ahead
    simp
  · unfold sortWorldK grow putRowK putRow mapBlock Sort.ahead
    simp only
    rw [Array.getElem?_append_left (by simp; omega), Array.getElem?_modify, if_neg (by omega)]
/-- A row of pairs of numbers. -/
def askAt (w : World) (A : Option Addr) (l : List Nat) : Prop := l = [] ∨ ∃ b, A = some ⟨b, 0, none⟩ ∧ b < w.heap.size ∧ ∀ k (hk : k < l.length), w.cell? ⟨b, k * 2, none⟩ = some (.int .i64 (plc l[k]).1) ∧ w.cell? ⟨b, k * 2 + 1, none⟩ = some (.int .i64 (plc l[k]).2)
theorem askAt.below {w w' : World} {A : Option Addr} {l : List Nat} (h : askAt w A l) (k : Below w.heap.size w w') : askAt w' A l := by
  rcases h with h | ⟨b, e, hb, h⟩
  · exact .inl h
  · exact .inr ⟨b, e, Nat.lt_of_lt_of_le hb k.size, fun i hi => ⟨(k.cell (p := ⟨b, i * 2, none⟩) hb).trans (h i hi).1, (k.cell (p := ⟨b, i * 2 + 1, none⟩) hb).trans (h i hi).2⟩⟩
theorem askAt.take {w : World} {A : Option Addr} {l : List Nat} (h : askAt w A l) (n : Nat) : askAt w A (l.take n) := by
  rcases h with h | ⟨b, e, hb, h⟩
  · left; rw [h]; simp
  · refine .inr ⟨b, e, hb, fun i hi => ?_⟩
    have hi' : i < l.length := by rw [List.length_take] at hi; omega
    have := h i hi'
    rw [List.getElem_take]
    exact this
abbrev ARow (w : World) (N : Nat) (A : Option Addr) (c : Nat) (l : List Nat) : Prop := w.ownsRow N 54 2 (.slice A l.length c) l.length (flat l)
theorem row_block {w : World} {N c : Nat} {A : Option Addr} {d : List Nat} (h : ARow w N A c d) (h0 : d ≠ []) : ∃ b cs, A = some ⟨b, 0, none⟩ ∧ N ≤ b ∧ w.heap[b]? = some (.cells cs 54 (0, 0)) := by
  rcases h.2 with ⟨_, e⟩ | ⟨g, cap, cur, e, hb, hg, _⟩
  · exact absurd (List.eq_nil_of_length_eq_zero e) h0
  · injection e with e1
    exact ⟨g, cur, e1, hb, hg⟩
theorem row_holds {w : World} {N g c : Nat} {d : List Nat} (h : ARow w N (some ⟨g, 0, none⟩) c d) (h0 : d ≠ []) : HoldsK cells2 2 w g 0 d.toArray := fun j hj => by
  have hj2 : j < d.length * 2 := by simpa using hj
  have hq : j / 2 < d.length := by omega
  have hm : j % 2 < 2 := Nat.mod_lt _ (by decide)
  have e : j = j / 2 * 2 + j % 2 := by omega
  have hc := World.ownsRow.cellAt h j hj2
  have hfl : (flat d)[j]? = (cells2 d[j / 2])[j % 2]? := by
    have := flat_at (l := d) hq hm
    rw [← e] at this
    exact this
  have hl2 : (cells2 d[j / 2]).length = 2 := rfl
  refine ⟨?_, ?_⟩
  · rw [Nat.zero_add, hc, hfl, get_flatK _ _ _ j (by simpa using hj2)]
    rw [List.getElem?_eq_getElem (by omega)]
    congr 1
    have h1 : d.toArray[j / 2]! = d[j / 2] := by simp [hq]
    rw [h1]
    simp [hl2, hm]
  · obtain ⟨b, cs, e1, -, hcs⟩ := row_block h h0
    cases e1
    exact Sm.free_of hcs _
theorem places_rises (F : Nat → Option Value) : (places F).Pairwise (· < ·) := (List.pairwise_lt_range (n := 31)).sublist List.filter_sublist
theorem sorted_is {d : List Nat} {F : Nat → Option Value} (hp : d.Perm (places F)) (hs : ∀ i j (hi : i < d.length) (hj : j < d.length), i < j → Go.Proofs.ltOf cf d[j] d[i] = false) : d = places F := by
  have hnd : d.Pairwise (· ≠ ·) := (hp.pairwise_iff (fun h => fun e => h e.symm)).2 ((places_rises F).imp (fun h => Nat.ne_of_lt h))
  have h31 : ∀ x ∈ d, x < 31 := fun x hx => (mem_places.1 (hp.mem_iff.1 hx)).1
  have hr : d.Pairwise (· < ·) := List.pairwise_iff_getElem.2 fun i j hi hj hij => by
    have h1 := hs i j hi hj hij
    have h2 := List.pairwise_iff_getElem.1 hnd i j hi hj hij
    rw [lt_cf_no] at h1
    by_cases h : d[i] < d[j]
    · exact h
    · exact absurd (plc_lt (h31 _ (List.getElem_mem hi)) (by omega)) h1
  exact List.Perm.eq_of_pairwise (le := fun a b : Nat => a < b) (fun a b _ _ h1 h2 => absurd h1 (Nat.lt_asymm h2)) hr (places_rises F) hp
end Wk
theorem wkSort_any {w : World} {N c : Nat} {A : Option Addr} {d : List Nat} {G : Nat → Option Value} (h : Wk.ARow w N A c d) (hN : N ≤ w.heap.size) (hp : d.Perm (Wk.places G)) (hn : d.length ≤ 1000000) :
    Calls Tryz.prog 95 #[.slice A d.length c, .func (.func 65) #[] #[]] w fun e w' => e = .returned (.tuple #[]) ∧ Wk.askAt w' A (Wk.places G) ∧ Below N w w' := by
  by_cases h0 : d = []
  · subst h0
    have hl0 : Wk.places G = [] := (List.Perm.nil_eq hp).symm
    rw [hl0]
    have := AnyF.slices_SortFunc_none { Wk.sortAsk with } A c (.func (.func 65) #[] #[]) w
    change Calls Tryz.prog 95 _ _ _ at this
    exact this.mono fun e w' ⟨h1, h2⟩ => ⟨h1, .inl rfl, by rw [h2]; exact Below.refl _ _⟩
  · obtain ⟨b, cs, rfl, hNb, hcs⟩ := Wk.row_block h h0
    have hb := Sm.lt_of hcs
    have hh0 := Wk.row_holds h h0
    have eg : ∀ args w, (callFunc 65 args).run Tryz.prog w = .ok (.enter 65 args) w := Go.Proofs.enters_of Tryz.func65 (by kernel_rfl) rfl
    have hcon := AnyQ.slices_SortFunc Wk.sortAsk 2 (fun w => by kernel_rfl) (fun w => by kernel_rfl) Wk.cells2 (fun _ => rfl) (fun x v hv => by simp only [Wk.cells2, List.mem_cons, List.not_mem_nil, or_false] at hv; rcases hv with rfl | rfl <;> rfl) Wk.cf Wk.swo 65 #[] b 0 c d.toArray w eg (fun _ _ _ _ x y => wkByRow_any _ (Wk.plc x) (Wk.plc y)) hh0 hb (by simp; omega)
    rw [List.size_toArray] at hcon
    change Calls Tryz.prog 95 _ _ _ at hcon
    refine hcon.mono fun e w' ⟨h1, d', n, os, hperm, hsort, hw⟩ => ⟨h1, ?_, by rw [hw]; exact Wk.sort_below hNb hN _ _⟩
    obtain ⟨hds, -, hpp⟩ := hperm
    have hds2 : d'.size = d.length := by simpa using hds
    have hpl : d'.toList.Perm d := by
      have e1 : d'.extract 0 d.length = d' := by rw [← hds2, Array.extract_size]
      have e2 : d.toArray.extract 0 d.length = d.toArray := by simp
      rw [e1, e2] at hpp
      exact hpp
    have heq : d'.toList = Wk.places G := Wk.sorted_is (hpl.trans hp) fun i j hi hj hij => by
      have q : j < d'.size := by simpa using hj
      have := hsort i j (Nat.zero_le _) hij (by rw [hds2] at q; simpa using q)
      simp only [Array.length_toList] at hi hj
      rw [getElem!_pos d' j hj, getElem!_pos d' i hi] at this
      simpa using this
    have hh := holdsK_sortWorldK Wk.cells2 2 w b 0 n d.toArray d' os hb hh0 (by rw [List.size_toArray]; exact hds)
    rw [← hw] at hh
    refine .inr ⟨b, rfl, by rw [hw]; exact lt_sortWorldK _ _ _ _ _ _ _ _ hb, fun k hk => ?_⟩
    have hkd : k < d'.size := by rw [← heq] at hk; simpa using hk
    have hlk : (Wk.places G)[k] = d'[k] := by
      have : d'.toList[k]'(by simpa using hkd) = d'[k] := by simp
      rw [← this]
      congr 1
      exact heq.symm
    have c0 := HoldsK.cells hh (fun _ => rfl) hkd 0 (.int .i64 (Wk.plc (Wk.places G)[k]).1) (by rw [getElem!_pos d' k hkd, hlk]; rfl)
    have c1 := HoldsK.cells hh (fun _ => rfl) hkd 1 (.int .i64 (Wk.plc (Wk.places G)[k]).2) (by rw [getElem!_pos d' k hkd, hlk]; rfl)
    rw [Addr.add_lit] at c0 c1
    simp only [Nat.zero_add] at c0 c1
    exact ⟨c0, c1⟩
end Go.Proofs.YtiehcplepneajaaGreatDoor
