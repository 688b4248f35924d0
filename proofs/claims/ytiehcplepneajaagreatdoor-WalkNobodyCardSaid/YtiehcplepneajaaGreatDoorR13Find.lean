/-
  The document's Less, and where its map has a path.
-/
import Derived.Test.YtiehcplepneajaaGreatDoorOmActs
import Derived.Test.YtiehcplepneajaaGreatDoorOmEq
import Derived.Test.YtiehcplepneajaaGreatDoorPaFns
namespace Go.Proofs.YtiehcplepneajaaGreatDoor
open Go.RowKit
namespace Om
theorem size_list (a : ByteArray) : a.data.toList.length = a.size := Ba.ba_size a
theorem get_list (a : ByteArray) (i : Nat) (h : i < a.size) : a.data.toList[i]'(by rw [size_list]; exact h) = a[i] := by simp [ByteArray.getElem_eq_getElem_data]
end Om
set_option maxRecDepth 100000 in
set_option maxHeartbeats 2000000 in
theorem r11Less_any (w : World) (a b : ByteArray) (ha : a.size ≤ 1000000) : Calls Tryz.prog 59 #[.string a, .string b] w fun e w' => e = .returned (.bool (Om.lt a b)) ∧ Below w.heap.size w w' := by
  obtain ⟨g, hg⟩ : ∃ g, g = Om.lt a b := ⟨_, rfl⟩
  rw [← hg]
  have HG : Hid (Op.bytesLess a.data.toList b.data.toList = g) := hg.symm
  have HA := Lib.hid ha
  clear hg ha
  go_enter Tryz.func59, Tryz.ntmps59
  go_wp2
  go_loopw [5] (fun s wr => ∃ i : Nat, s = .int .i64 i ∧ i ≤ a.size ∧ i ≤ b.size ∧ Hid (∀ j (h1 : j < a.data.toList.length) (h2 : j < b.data.toList.length), j < i → a.data.toList[j] = b.data.toList[j]) ∧ Below w.heap.size w wr) (fun s _ => a.size - (intOf s).toNat)
  case atStart => exact ⟨0, rfl, Nat.zero_le _, Nat.zero_le _, fun j _ _ h => absurd h (Nat.not_lt_zero _), Below.refl _ _⟩
  case round =>
    obtain ⟨i, rfl, h1, h2, hall, hb⟩ := hrel
    have HB := Lib.hid hb
    clear hb
    by_cases hia : i < a.size
    · have hiai : (i : Int) < (a.size : Int) := by omega
      by_cases hib : i < b.size
      · have hibi : (i : Int) < (b.size : Int) := by omega
        have hsuc : IntKind.i64.wrap ((i : Int) + 1) = ((i + 1 : Nat) : Int) := by have := HA.out; simp [IntKind.wrap, IntKind.bits, IntKind.signed]; omega
        have la : i < a.data.toList.length := by rw [Om.size_list]; exact hia
        have lb : i < b.data.toList.length := by rw [Om.size_list]; exact hib
        by_cases hxy : a[i] = b[i]
        · have hne : ((a[i].toNat : Int) != (b[i].toNat : Int)) = false := by rw [hxy]; simp
          have HN : Hid (∀ j (h1 : j < a.data.toList.length) (h2 : j < b.data.toList.length), j < i + 1 → a.data.toList[j] = b.data.toList[j]) := fun j q1 q2 hj => by
            by_cases e : j = i
            · subst e
              rw [Om.get_list a j hia, Om.get_list b j hib, hxy]
            · exact hall.out j q1 q2 (by omega)
          have HLA := Lib.hid hia
          have HLB := Lib.hid hib
          clear hxy hall
          go_wp2
          go_quiet (fail)
          go_wp2
          go_roundw
          case rel => exact ⟨i + 1, rfl, HLA.out, HLB.out, HN.out, Sm.below_drewN HB.out _⟩
          case measure => simp only [intOf]; have := HLA.out; omega
        · have hne : ((a[i].toNat : Int) != (b[i].toNat : Int)) = true := by
            rw [bne_iff_ne]
            intro e
            exact hxy (UInt8.toNat_inj.1 (by omega))
          have hgv : g = decide (a[i].toNat < b[i].toNat) := by
            have := Om.bl_split i la lb (by
              refine List.ext_getElem (by simp; omega) fun j q1 q2 => ?_
              simp only [List.length_take] at q1 q2
              rw [List.getElem_take, List.getElem_take]
              exact hall.out j (by omega) (by omega) (by omega)) (by rw [Om.get_list a i hia, Om.get_list b i hib]; exact hxy)
            rw [HG.out, Om.get_list a i hia, Om.get_list b i hib] at this
            rw [this]
            congr 1
          have HGV := Lib.hid hgv
          clear hxy hall hgv
          go_wp2
          go_quiet (fail)
          go_wp2
          go_quiet (fail)
          go_wp2
          go_ret
          refine ⟨?_, Sm.below_drewN (Sm.below_drewN HB.out _) _⟩
          rw [HGV.out]; rfl
      · have hibi : ¬ (i : Int) < (b.size : Int) := by omega
        have hgv : g = decide (a.size < b.size) := by
          have := Om.bl_end (x := a.data.toList) (y := b.data.toList) fun k q1 q2 => hall.out k q1 q2 (by rw [Om.size_list] at q2; omega)
          rw [HG.out, Om.size_list, Om.size_list] at this
          exact this
        have HGI := Lib.hid hgv
        clear hall hgv
        go_wp2
        go_ret
        refine ⟨?_, HB.out⟩
        rw [HGI.out]; rfl
    · have hiai : ¬ (i : Int) < (a.size : Int) := by omega
      have hgv : g = decide (a.size < b.size) := by
        have := Om.bl_end (x := a.data.toList) (y := b.data.toList) fun k q1 q2 => hall.out k q1 q2 (by rw [Om.size_list] at q1; omega)
        rw [HG.out, Om.size_list, Om.size_list] at this
        exact this
      have HGI := Lib.hid hgv
      clear hall hgv
      go_wp2
      go_ret
      refine ⟨?_, HB.out⟩
      rw [HGI.out]; rfl
namespace Om
theorem pos_in {p : ByteArray} {l : List Pr} {i : Nat} (h : i < l.length) (hl : lt l[i].p p = true) : pos p (l.drop i) = pos p (l.drop (i + 1)) + 1 := by
  rw [List.drop_eq_getElem_cons h, pos, if_pos hl]
theorem pos_at {p : ByteArray} {l : List Pr} {i : Nat} (h : i < l.length) (hl : lt l[i].p p = false) : pos p (l.drop i) = 0 := by
  rw [List.drop_eq_getElem_cons h, pos, if_neg (by rw [hl]; decide)]
theorem pos_end {p : ByteArray} (l : List Pr) : pos p (l.drop l.length) = 0 := by rw [List.drop_length]; rfl
/-- What find tells of its place: is the path there? -/
def isAt (l : List Pr) (i : Nat) (p : ByteArray) : Bool := match l[i]? with | some x => x.p.toList == p.toList | none => false
theorem isAt_get (l : List Pr) (p : ByteArray) : isAt l (pos p l) p = (get p l).isSome := by
  rw [get_pos p l]
  unfold isAt
  cases l[pos p l]? with
  | none => rfl
  | some x =>
    by_cases h : x.p = p
    · simp only [h, if_true]; rw [ba_same.2 rfl]; rfl
    · simp only [h, if_false]
      cases hc : x.p.toList == p.toList with
      | false => rfl
      | true => exact absurd (ba_same.1 hc) h
end Om
set_option maxRecDepth 100000 in
set_option maxHeartbeats 2000000 in
theorem r13find_any {w : World} {A : Option Addr} {l : List Om.Pr} (c : Nat) (hit : Om.listAt w A l) (hl : l.length ≤ 1000) (hs : ∀ x ∈ l, x.p.size ≤ 1000000) (p : ByteArray) :
    Calls Tryz.prog 80 #[.agg #[.slice A l.length c], .string p] w fun e w' => e = .returned (.tuple #[.int .i64 (Om.pos p l : Nat), .bool (Om.get p l).isSome]) ∧ Below w.heap.size w w' := by
  rw [← Om.isAt_get]
  have HLE := Lib.hid (fun (wx : World) (a : ByteArray) (h : a.size ≤ 1000000) => r11Less_any wx a p h)
  obtain ⟨P, hP⟩ : ∃ P, P = Om.pos p l := ⟨_, rfl⟩
  rw [← hP]
  have HPP : Hid (Om.pos p (l.drop 0) + 0 = P) := by show _ = _; rw [List.drop_zero, Nat.add_zero]; exact hP.symm
  have HS := Lib.hid hs
  obtain ⟨N, hN⟩ : ∃ N, N = w.heap.size := ⟨_, rfl⟩
  have HN := Lib.hid hN
  have gn := heap_alloc_new w (.cells #[.slice A l.length c] 85)
  have hb1 : Below N w (w.alloc (.cells #[.slice A l.length c] 85)) := by rw [hN]; exact (Below.refl _ w).alloc (Nat.le_refl _) _
  have HIT : Hid (∀ wx : World, Below N w wx → ∀ j (hj : j < l.length), ∃ b off, A = some ⟨b, off, none⟩ ∧ b < w.heap.size ∧ Om.prAt wx b (off + j * 2) l[j]) := fun wx k j hj => hit.get (by rw [← hN]; exact k) j hj
  have hlt1 := Sm.lt_of gn
  obtain ⟨W1, hW1⟩ : ∃ W1, W1 = w.alloc (.cells #[.slice A l.length c] 85) := ⟨_, rfl⟩
  rw [← hW1] at gn hb1 hlt1
  rw [← hN] at gn hlt1 ⊢
  have HG := Lib.hid gn
  have HLT1 := Lib.hid hlt1
  have HB1 := Lib.hid hb1
  clear hit hs gn hb1 hP hlt1
  go_enter Tryz.func80, Tryz.ntmps80
  go_upto_region 1 with (fail)
  rw [← hN, ← hW1]
  clear hN hW1
  go_wp2
  go_loopw [6] (fun s wr => ∃ i : Nat, s = .int .i64 i ∧ i ≤ l.length ∧ Hid (Om.pos p (l.drop i) + i = P) ∧ Below W1.heap.size W1 wr) (fun s _ => l.length - (intOf s).toNat)
  case atStart => exact ⟨0, rfl, Nat.zero_le _, HPP.out, Below.refl _ _⟩
  case round =>
    obtain ⟨i, rfl, hi, hpp, hb⟩ := hrel
    have HB := Lib.hid hb
    have x0 := Sm.cells_of ((hb.block N HLT1.out).trans HG.out) 0 _ rfl
    have hbw : Below N w wr := HB1.out.trans (hb.mono (Nat.le_of_lt HLT1.out))
    have HBW := Lib.hid hbw
    by_cases hlt : i < l.length
    · have hii : (i : Int) < (l.length : Int) := by omega
      have hsuc : IntKind.i64.wrap ((i : Int) + 1) = ((i + 1 : Nat) : Int) := by simp [IntKind.wrap, IntKind.bits, IntKind.signed]; omega
      obtain ⟨b, o, rfl, -, y0, -⟩ := HIT.out wr hbw i hlt
      have LS := Lib.hid (HLE.out wr l[i].p (HS.out _ (List.getElem_mem hlt)))
      have hin := fun h => Om.pos_in (p := p) hlt h
      have hat := fun h => Om.pos_at (p := p) hlt h
      have hisa : Om.isAt l i p = (l[i].p.toList == p.toList) := by unfold Om.isAt; rw [List.getElem?_eq_getElem hlt]
      obtain ⟨x, hx⟩ : ∃ x, x = l[i] := ⟨_, rfl⟩
      have HX : Hid (∀ h : i < l.length, x = l[i]) := fun _ => hx
      rw [← hx] at y0 LS hin hat hisa
      have HLT := Lib.hid hlt
      cases hc : Om.lt x.p p with
      | true =>
        rw [hc] at LS
        have HPN : Hid (Om.pos p (l.drop (i + 1)) + (i + 1) = P) := by show _ = _; have := hpp.out; rw [hin hc] at this; omega
        clear hin hat hisa hx hc hpp hb hbw
        clear hlt
        go_wp2_with (go_at_call 59; refine LS.out.mono ?_; rintro e w2 ⟨rfl, k2⟩)
        have B2 := Lib.hid (HB.out.trans (k2.mono HB.out.size))
        clear k2
        go_roundw
        case rel => exact ⟨i + 1, rfl, HLT.out, HPN.out, B2.out⟩
        case measure => simp only [intOf]; have := HLT.out; omega
      | false =>
        rw [hc] at LS
        have hPi : P = i := by have := hpp.out; rw [hat hc] at this; omega
        obtain ⟨f, hf⟩ : ∃ f, f = (x.p.toList == p.toList) := ⟨_, rfl⟩
        rw [← hf] at hisa
        have HISA := Lib.hid hisa
        have hfe : (x.p.toList == p.toList) = f := hf.symm
        clear hin hat hisa hx hc hpp hb hbw hf
        clear hlt
        subst hPi
        go_upto_region 4 with (go_at_call 59; refine LS.out.mono ?_; rintro e w2 ⟨rfl, k2⟩)
        have B2 := Lib.hid (HB.out.trans (k2.mono HB.out.size))
        have x0' := Sm.cells_of ((B2.out.block N HLT1.out).trans HG.out) 0 _ rfl
        obtain ⟨b', o', e', -, y0', -⟩ := HIT.out w2 (HB1.out.trans (B2.out.mono (Nat.le_of_lt HLT1.out))) P HLT.out
        simp only [Option.some.injEq, Addr.mk.injEq] at e'
        obtain ⟨rfl, rfl, _⟩ := e'
        rw [← HX.out HLT.out] at y0'
        clear k2
        go_quiet (fail)
        go_wp2
        go_ret2
        rw [HISA.out]
        exact ⟨rfl, Sm.below_drewN (HB1.out.trans (B2.out.mono (Nat.le_of_lt HLT1.out))) _⟩
    · have hie : i = l.length := by omega
      have hPi : P = l.length := by have := hpp.out; rw [hie, Om.pos_end] at this; omega
      have hisa : Om.isAt l l.length p = false := by unfold Om.isAt; rw [List.getElem?_eq_none (Nat.le_refl _)]
      have HISA := Lib.hid hisa
      clear hpp hb hbw hisa hi
      subst hie
      subst hPi
      go_wp2
      go_quiet (fail)
      go_wp2
      go_ret2
      rw [HISA.out]
      exact ⟨rfl, Sm.below_drewN HBW.out _⟩
end Go.Proofs.YtiehcplepneajaaGreatDoor
