/-
  Two readers that are read alike have read the same bytes.
-/
import Derived.Test.YtapogiihkbjppaaDoorFollows
namespace Go.Proofs.YtapogiihkbjppaaDoor
open Go.RowKit Pk

theorem zig_zag {n : Nat} : zig (zag n) = n := by unfold zig zag; split <;> split <;> omega

/-- The bytes that were read where v was told. -/
def chunk (x v : It) : List UInt8 :=
  if x.d = 0 then enc v.n else if x.d = 1 then enc (zig v.i) else if x.d = 2 then enc v.s.size ++ v.s.data.toList else if x.d = 3 then [UInt8.ofNat v.b] else enc v.n

theorem go_fine {r : Rd} {sz e : Nat} (h : (r.go sz e).f = 0) : r.f = 0 ∧ e = 0 ∧ r.go sz e = ⟨r.s, r.pos + sz, 0⟩ := by
  unfold Rd.go at h ⊢
  by_cases hf : r.f = 0
  · rw [if_pos hf] at h ⊢
    by_cases he : e = 0
    · rw [if_pos he]; exact ⟨hf, he, by rw [hf]⟩
    · rw [if_neg he] at h; exact absurd h he
  · rw [if_neg hf] at h; exact absurd h hf

theorem rest_go (r : Rd) (k : Nat) : Rd.rest ⟨r.s, r.pos + k, 0⟩ = r.rest.drop k := by
  unfold Rd.rest
  rw [List.drop_drop]

theorem dec_chunk {l : List UInt8} (h : (dec 0 0 l).2.2 = 0) : (dec 0 0 l).2.1 = (enc (dec 0 0 l).1).length ∧ l = enc (dec 0 0 l).1 ++ l.drop (enc (dec 0 0 l).1).length := by
  obtain ⟨n, tail, hv, hs, hl, _⟩ := dec_inv l 0 0 (dec 0 0 l).1 (dec 0 0 l).2.1 (Prod.ext rfl (Prod.ext rfl h))
  have hn : (dec 0 0 l).1 = n := by simpa using hv
  rw [hn]
  refine ⟨by simpa using hs, ?_⟩
  conv => lhs; rw [hl]
  conv => rhs; rw [hl]
  rw [List.drop_left]
theorem cnt_chunk {l : List UInt8} {m : Int} (h : (cnt l m).2.2 = 0) : (cnt l m).2.1 = (enc (cnt l m).1).length ∧ l = enc (cnt l m).1 ++ l.drop (enc (cnt l m).1).length := by
  unfold cnt at h ⊢
  split at h
  · simp at h
  · rename_i hn
    rw [if_neg hn]
    exact dec_chunk h

theorem rd_chunk {r r' : Rd} {x v : It} (h : rdI r x = (v, r')) (hf : r'.f = 0) :
    r.f = 0 ∧ r' = ⟨r.s, r.pos + (chunk x v).length, 0⟩ ∧ r.rest = chunk x v ++ r.rest.drop (chunk x v).length := by
  unfold rdI at h
  unfold chunk
  by_cases d0 : x.d = 0
  · rw [if_pos d0] at h ⊢
    obtain ⟨rfl, rfl⟩ := Prod.mk.inj h
    obtain ⟨h1, h2, h3⟩ := go_fine hf
    obtain ⟨c1, c2⟩ := dec_chunk h2
    have e : r.num.1 = (dec 0 0 r.rest).1 := by unfold Rd.num; simp only; rw [pass_true h1 h2, if_pos rfl]
    have e2 : r.num.2 = ⟨r.s, r.pos + (dec 0 0 r.rest).2.1, 0⟩ := h3
    refine ⟨h1, ?_, ?_⟩
    · rw [e2, c1]; simp only [e]
    · simp only [e]; exact c2
  · rw [if_neg d0] at h ⊢
    by_cases d1 : x.d = 1
    · rw [if_pos d1] at h ⊢
      obtain ⟨rfl, rfl⟩ := Prod.mk.inj h
      obtain ⟨h1, h2, h3⟩ := go_fine hf
      obtain ⟨c1, c2⟩ := dec_chunk h2
      have e : r.num.1 = (dec 0 0 r.rest).1 := by unfold Rd.num; simp only; rw [pass_true h1 h2, if_pos rfl]
      have e2 : r.num.2 = ⟨r.s, r.pos + (dec 0 0 r.rest).2.1, 0⟩ := h3
      refine ⟨h1, ?_, ?_⟩
      · rw [e2, c1]; simp only [e, zig_zag]
      · simp only [e, zig_zag]; exact c2
    · rw [if_neg d1] at h ⊢
      by_cases d2 : x.d = 2
      · rw [if_pos d2] at h ⊢
        obtain ⟨rfl, rfl⟩ := Prod.mk.inj h
        obtain ⟨h1, h2, h3⟩ := go_fine hf
        obtain ⟨r1, r2⟩ := terr_room h2
        obtain ⟨c1, c2⟩ := cnt_chunk r2
        have e : (r.text x.m).1 = (r.rest.drop (cnt r.rest x.m).2.1).take (cnt r.rest x.m).1 := by unfold Rd.text; simp only; rw [pass_true h1 h2, if_pos rfl]
        have e2 : (r.text x.m).2 = ⟨r.s, r.pos + ((cnt r.rest x.m).2.1 + (cnt r.rest x.m).1), 0⟩ := h3
        have el : (r.text x.m).1.length = (cnt r.rest x.m).1 := by rw [e, List.length_take, List.length_drop]; omega
        have es : (ByteArray.mk (r.text x.m).1.toArray).size = (cnt r.rest x.m).1 := by show (r.text x.m).1.toArray.size = _; simpa using el
        refine ⟨h1, ?_, ?_⟩
        · rw [e2, c1]
          simp only [es, List.length_append]
          simp [el]
        · simp only [es]
          rw [c1] at e
          conv => lhs; rw [c2]
          rw [e, List.append_assoc]
          congr 1
          simp only [List.length_append]
          have : (List.take (cnt r.rest x.m).1 (List.drop (enc (cnt r.rest x.m).1).length r.rest)).length = (cnt r.rest x.m).1 := by rw [← e]; exact el
          rw [this, ← List.drop_drop, List.take_append_drop]
      · rw [if_neg d2] at h ⊢
        by_cases d3 : x.d = 3
        · rw [if_pos d3] at h ⊢
          obtain ⟨rfl, rfl⟩ := Prod.mk.inj h
          obtain ⟨h1, h2, h3⟩ := go_fine hf
          have hne : r.rest ≠ [] := fun h => by rw [if_pos h] at h2; omega
          obtain ⟨y, tl, hy⟩ := List.exists_cons_of_ne_nil hne
          have e : r.byte.1 = y.toNat := by unfold Rd.byte; simp only; rw [pass_true h1 h2, if_pos rfl, hy]; rfl
          have e2 : r.byte.2 = ⟨r.s, r.pos + 1, 0⟩ := h3
          refine ⟨h1, by rw [e2]; rfl, ?_⟩
          simp only [e, UInt8.ofNat_toNat]
          rw [hy]
          rfl
        · rw [if_neg d3] at h ⊢
          obtain ⟨rfl, rfl⟩ := Prod.mk.inj h
          obtain ⟨h1, h2, h3⟩ := go_fine hf
          obtain ⟨c1, c2⟩ := cnt_chunk h2
          have e : (r.most x.m).1 = (cnt r.rest x.m).1 := by unfold Rd.most; simp only; rw [pass_true h1 h2, if_pos rfl]
          have e2 : (r.most x.m).2 = ⟨r.s, r.pos + (cnt r.rest x.m).2.1, 0⟩ := h3
          refine ⟨h1, ?_, ?_⟩
          · rw [e2, c1]; simp only [e]
          · simp only [e]; exact c2

/-- Two readers that told the same so far: if neither has failed, they have read the same bytes. -/
def Alike (s t : ByteArray) (y z : Rd) : Prop := y.s = s ∧ z.s = t ∧ y.Ok ∧ z.Ok ∧ (y.f = 0 → z.f = 0 → y.pos = z.pos ∧ s.data.toList.take y.pos = t.data.toList.take z.pos)

theorem alike_start {s t : ByteArray} (hs : s.size ≤ 281474976710656) (ht : t.size ≤ 281474976710656) : Alike s t ⟨s, 0, 0⟩ ⟨t, 0, 0⟩ :=
  ⟨rfl, rfl, ⟨Nat.zero_le _, Nat.zero_le _, hs⟩, ⟨Nat.zero_le _, Nat.zero_le _, ht⟩, fun _ _ => ⟨rfl, by simp⟩⟩

theorem take_chunk {l ch tl : List UInt8} {p : Nat} (hp : p ≤ l.length) (h : l.drop p = ch ++ tl) : l.take (p + ch.length) = l.take p ++ ch := by
  have e : l = l.take p ++ (ch ++ tl) := by rw [← h, List.take_append_drop]
  have hl : (l.take p).length = p := by rw [List.length_take]; omega
  conv => lhs; rw [e]
  rw [List.take_append, hl, Nat.add_sub_cancel_left, List.take_left, List.take_of_length_le (by omega)]

theorem go_s (r : Rd) (sz e : Nat) : (r.go sz e).s = r.s := by
  unfold Rd.go
  split
  · split <;> rfl
  · rfl
theorem rdI_s (r : Rd) (x : It) : (rdI r x).2.s = r.s := by
  unfold rdI
  split
  · exact go_s _ _ _
  · split
    · exact go_s _ _ _
    · split
      · exact go_s _ _ _
      · split <;> exact go_s _ _ _

theorem alike_step {s t : ByteArray} {y z y' z' : Rd} {x v : It} (h : Alike s t y z) (hy : rdI y x = (v, y')) (hz : rdI z x = (v, z')) : Alike s t y' z' := by
  obtain ⟨h1, h2, h3, h4, h5⟩ := h
  have ey := rdI_s y x
  have ez := rdI_s z x
  have oy := rdI_ok h3 x
  have oz := rdI_ok h4 x
  rw [hy] at ey oy
  rw [hz] at ez oz
  refine ⟨ey.trans h1, ez.trans h2, oy, oz, fun fy fz => ?_⟩
  obtain ⟨a1, a2, a3⟩ := rd_chunk hy fy
  obtain ⟨b1, b2, b3⟩ := rd_chunk hz fz
  obtain ⟨c1, c2⟩ := h5 a1 b1
  have hp := h3.pos
  have hq := h4.pos
  rw [h1] at hp
  rw [h2] at hq
  unfold Rd.rest at a3 b3
  rw [h1] at a3
  rw [h2] at b3
  rw [a2, b2]
  refine ⟨by show y.pos + _ = z.pos + _; rw [c1], ?_⟩
  show s.data.toList.take (y.pos + _) = t.data.toList.take (z.pos + _)
  rw [take_chunk (by simpa using hp) a3, take_chunk (by simpa using hq) b3, c2]

/-- Where two readers tell something else for one item, it is in one field. -/
theorem rd_differ {y z y' z' : Rd} {x : It} {d1 n1 b1 d2 n2 b2 : Nat} {i1 m1 i2 m2 : Int} {s1 s2 : ByteArray} (hy : rdI y x = (⟨d1, n1, i1, s1, b1, m1⟩, y')) (hz : rdI z x = (⟨d2, n2, i2, s2, b2, m2⟩, z'))
    (hne : (⟨d1, n1, i1, s1, b1, m1⟩ : It) ≠ ⟨d2, n2, i2, s2, b2, m2⟩) :
    d2 = d1 ∧ m2 = m1 ∧ ((n1 ≠ n2 ∧ i2 = i1 ∧ s2 = s1 ∧ b2 = b1) ∨ (n2 = n1 ∧ i1 ≠ i2 ∧ s2 = s1 ∧ b2 = b1) ∨ (n2 = n1 ∧ i2 = i1 ∧ s1 ≠ s2 ∧ b2 = b1) ∨ (n2 = n1 ∧ i2 = i1 ∧ s2 = s1 ∧ b1 ≠ b2)) := by
  unfold rdI at hy hz
  by_cases d0 : x.d = 0
  · rw [if_pos d0] at hy hz
    simp only [Prod.mk.injEq, It.mk.injEq] at hy hz
    obtain ⟨⟨rfl, rfl, rfl, rfl, rfl, rfl⟩, -⟩ := hy
    obtain ⟨⟨rfl, rfl, rfl, rfl, rfl, rfl⟩, -⟩ := hz
    refine ⟨rfl, rfl, .inl ⟨fun h => hne (by rw [h]), rfl, rfl, rfl⟩⟩
  · rw [if_neg d0] at hy hz
    by_cases d1' : x.d = 1
    · rw [if_pos d1'] at hy hz
      simp only [Prod.mk.injEq, It.mk.injEq] at hy hz
      obtain ⟨⟨rfl, rfl, rfl, rfl, rfl, rfl⟩, -⟩ := hy
      obtain ⟨⟨rfl, rfl, rfl, rfl, rfl, rfl⟩, -⟩ := hz
      refine ⟨rfl, rfl, .inr (.inl ⟨rfl, fun h => hne (by rw [h]), rfl, rfl⟩)⟩
    · rw [if_neg d1'] at hy hz
      by_cases d2' : x.d = 2
      · rw [if_pos d2'] at hy hz
        simp only [Prod.mk.injEq, It.mk.injEq] at hy hz
        obtain ⟨⟨rfl, rfl, rfl, rfl, rfl, rfl⟩, -⟩ := hy
        obtain ⟨⟨rfl, rfl, rfl, rfl, rfl, rfl⟩, -⟩ := hz
        refine ⟨rfl, rfl, .inr (.inr (.inl ⟨rfl, rfl, fun h => hne (by rw [h]), rfl⟩))⟩
      · rw [if_neg d2'] at hy hz
        by_cases d3 : x.d = 3
        · rw [if_pos d3] at hy hz
          simp only [Prod.mk.injEq, It.mk.injEq] at hy hz
          obtain ⟨⟨rfl, rfl, rfl, rfl, rfl, rfl⟩, -⟩ := hy
          obtain ⟨⟨rfl, rfl, rfl, rfl, rfl, rfl⟩, -⟩ := hz
          refine ⟨rfl, rfl, .inr (.inr (.inr ⟨rfl, rfl, rfl, fun h => hne (by rw [h])⟩))⟩
        · rw [if_neg d3] at hy hz
          simp only [Prod.mk.injEq, It.mk.injEq] at hy hz
          obtain ⟨⟨rfl, rfl, rfl, rfl, rfl, rfl⟩, -⟩ := hy
          obtain ⟨⟨rfl, rfl, rfl, rfl, rfl, rfl⟩, -⟩ := hz
          refine ⟨rfl, rfl, .inl ⟨fun h => hne (by rw [h]), rfl, rfl, rfl⟩⟩

theorem alike_end {s t : ByteArray} {y z : Rd} (h : Alike s t y z) (hy : y.fin = 0) (hz : z.fin = 0) : s = t := by
  obtain ⟨h1, h2, h3, h4, h5⟩ := h
  have fin0 : ∀ r : Rd, r.fin = 0 → r.f = 0 ∧ r.rest = [] := by
    intro r hr
    unfold Rd.fin at hr
    by_cases hf : r.f = 0
    · rw [if_neg (by omega)] at hr
      by_cases hl : r.rest = []
      · exact ⟨hf, hl⟩
      · rw [if_neg hl] at hr; omega
    · rw [if_pos hf] at hr; omega
  obtain ⟨fy, ry⟩ := fin0 y hy
  obtain ⟨fz, rz⟩ := fin0 z hz
  obtain ⟨c1, c2⟩ := h5 fy fz
  have ly := y.rest_length
  have lz := z.rest_length
  rw [ry, h1] at ly
  rw [rz, h2] at lz
  simp only [List.length_nil] at ly lz
  rw [List.take_of_length_le (by simp; omega), List.take_of_length_le (by simp; omega)] at c2
  exact ByteArray.ext (Array.ext' c2)
end Go.Proofs.YtapogiihkbjppaaDoor
