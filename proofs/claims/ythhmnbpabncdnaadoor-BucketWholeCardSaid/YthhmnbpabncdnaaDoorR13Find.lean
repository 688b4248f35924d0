/-
  The document's Less, and where its map has a path.
-/
import Derived.Test.YthhmnbpabncdnaaDoorOmActs
import Derived.Test.YthhmnbpabncdnaaDoorOmEq
import Derived.Test.YthhmnbpabncdnaaDoorPaFns
namespace Go.Proofs.YthhmnbpabncdnaaDoor
open Go.RowKit
namespace Om
theorem size_list (a : ByteArray) : a.data.toList.length = a.size := Ba.ba_size a
theorem get_list (a : ByteArray) (i : Nat) (h : i < a.size) : a.data.toList[i]'(by rw [size_list]; exact h) = a[i] := by simp [ByteArray.getElem_eq_getElem_data]
end Om
set_option maxRecDepth 100000 in
set_option maxHeartbeats 2000000 in
theorem r11Less_any (w : World) (a b : ByteArray) (ha : a.size ≤ 1000000) : Calls Tryd.prog 28 #[.string a, .string b] w fun e w' => e = .returned (.bool (Om.lt a b)) ∧ Below w.heap.size w w' := by
  obtain ⟨g, hg⟩ : ∃ g, g = Om.lt a b := ⟨_, rfl⟩
  rw [← hg]
  have HG : Hid (Op.bytesLess a.data.toList b.data.toList = g) := hg.symm
  have HA := Lib.hid ha
  clear hg ha
  go_enter Tryd.func28, Tryd.ntmps28
  go_wp2
  go_loopw [5] (fun s wr => ∃ i : Nat, s = .int .i64 i ∧ i ≤ a.size ∧ i ≤ b.size ∧ Hid (∀ j (h1 : j < a.data.toList.length) (h2 : j < b.data.toList.length), j < i → a.data.toList[j] = b.data.toList[j]) ∧ Below w.heap.size w wr) (fun s _ => a.size - (intOf s).toNat)
  case atStart => exact ⟨0, rfl, Nat.zero_le _, Nat.zero_le _, fun j _ _ h => absurd h (Nat.not_lt_zero _), Below.refl _ _⟩
  case round =>
    obtain ⟨i, rfl, h1, h2, hall, hb⟩ := hrel
    have HB := Lib.hid hb
    clear hb
    by_cases hia : i < a.size
    · have hiai : (i : Int) < (a.size : Int) := by omega
      by_cases hib : i < b.size
      · have hibi : (i : Int) < (b.size : Int) := by omega
        have hsuc : IntKind.i64.wrap ((i : Int) + 1) = ((i + 1 : Nat) : Int) := by have := HA.out; simp [IntKind.wrap, IntKind.bits, IntKind.signed]; omega
        have la : i < a.data.toList.length := by rw [Om.size_list]; exact hia
        have lb : i < b.data.toList.length := by rw [Om.size_list]; exact hib
        by_cases hxy : a[i] = b[i]
        · have hne : ((a[i].toNat : Int) != (b[i].toNat : Int)) = false := by rw [hxy]; simp
          have HN : Hid (∀ j (h1 : j < a.data.toList.length) (h2 : j < b.data.toList.length), j < i + 1 → a.data.toList[j] = b.data.toList[j]) := fun j q1 q2 hj => by
            by_cases e : j = i
            · subst e
              rw [Om.get_list a j hia, Om.get_list b j hib, hxy]
            · exact hall.out j q1 q2 (by omega)
          have HLA := Lib.hid hia
          have HLB := Lib.hid hib
          clear hxy hall
          go_wp2
          go_quiet (fail)
          go_wp2
          go_roundw
          case rel => exact ⟨i + 1, rfl, HLA.out, HLB.out, HN.out, Sm.below_drewN HB.out _⟩
          case measure => simp only [intOf]; have := HLA.out; omega
        · have hne : ((a[i].toNat : Int) != (b[i].toNat : Int)) = true := by
            rw [bne_iff_ne]
            intro e
            exact hxy (UInt8.toNat_inj.1 (by omega))
          have hgv : g = decide (a[i].toNat < b[i].toNat) := by
            have := Om.bl_split i la lb (by
              refine List.ext_getElem (by simp; omega) fun j q1 q2 => ?_
              simp only [List.length_take] at q1 q2
              rw [List.getElem_take, List.getElem_take]
              exact hall.out j (by omega) (by omega) (by omega)) (by rw [Om.get_list a i hia, Om.get_list b i hib]; exact hxy)
            rw [HG.out, Om.get_list a i hia, Om.get_list b i hib] at this
            rw [this]
            congr 1
          have HGV := Lib.hid hgv
          clear hxy hall hgv
          go_wp2
          go_quiet (fail)
          go_wp2
          go_quiet (fail)
          go_wp2
          go_ret
          refine ⟨?_, Sm.below_drewN (Sm.below_drewN HB.out _) _⟩
          rw [HGV.out]; rfl
      · have hibi : ¬ (i : Int) < (b.size : Int) := by omega
        have hgv : g = decide (a.size < b.size) := by
          have := Om.bl_end (x := a.data.toList) (y := b.data.toList) fun k q1 q2 => hall.out k q1 q2 (by rw [Om.size_list] at q2; omega)
          rw [HG.out, Om.size_list, Om.size_list] at this
          exact this
        have HGI := Lib.hid hgv
        clear hall hgv
        go_wp2
        go_ret
        refine ⟨?_, HB.out⟩
        rw [HGI.out]; rfl
    · have hiai : ¬ (i : Int) < (a.size : Int) := by omega
      have hgv : g = decide (a.size < b.size) := by
        have := Om.bl_end (x := a.data.toList) (y := b.data.toList) fun k q1 q2 => hall.out k q1 q2 (by rw [Om.size_list] at q1; omega)
        rw [HG.out, Om.size_list, Om.size_list] at this
        exact this
      have HGI := Lib.hid hgv
      clear hall hgv
      go_wp2
      go_ret
      refine ⟨?_, HB.out⟩
      rw [HGI.out]; rfl
namespace Om
theorem pos_in {p : ByteArray} {l : List Pr} {i : Nat} (h : i < l.length) (hl : lt l[i].p p = true) : pos p (l.drop i) = pos p (l.drop (i + 1)) + 1 := by
  rw [List.drop_eq_getElem_cons h, pos, if_pos hl]
theorem pos_at {p : ByteArray} {l : List Pr} {i : Nat} (h : i < l.length) (hl : lt l[i].p p = false) : pos p (l.drop i) = 0 := by
  rw [List.drop_eq_getElem_cons h, pos, if_neg (by rw [hl]; decide)]
theorem pos_end {p : ByteArray} (l : List Pr) : pos p (l.drop l.length) = 0 := by rw [List.drop_length]; rfl
/-- What find tells of its place: is the path there? -/
def isAt (l : List Pr) (i : Nat) (p : ByteArray) : Bool := match l[i]? with | some x => x.p.toList == p.toList | none => false
theorem isAt_get (l : List Pr) (p : ByteArray) : isAt l (pos p l) p = (get p l).isSome := by
  rw [get_pos p l]
  unfold isAt
  cases l[pos p l]? with
  | none => rfl
  | some x =>
    by_cases h : x.p = p
    · simp only [h, if_true]; rw [ba_same.2 rfl]; rfl
    · simp only [h, if_false]
      cases hc : x.p.toList == p.toList with
      | false => rfl
      | true => exact absurd (ba_same.1 hc) h
end Om
end Go.Proofs.YthhmnbpabncdnaaDoor
