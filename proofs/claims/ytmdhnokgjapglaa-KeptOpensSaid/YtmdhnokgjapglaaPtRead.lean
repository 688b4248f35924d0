/-
  What parts' Read takes from a disk.
-/
import Derived.Test.YtmdhnokgjapglaaPtOne
import Derived.Test.YtmdhnokgjapglaaLgDisk
import Derived.Test.YtmdhnokgjapglaaDkTwo
namespace Go.Proofs.Ytmdhnokgjapglaa
open Go.RowKit
namespace Kp
open Dk (lookOf)
theorem look_bod (l : List UInt8) : Bod (lookOf l).1 := by
  unfold lookOf
  split
  · exact .inr rfl
  · split
    · rename_i h
      left
      rw [List.length_take]
      omega
    · exact .inr rfl
theorem look_num (l : List UInt8) : (lookOf l).2 = 0 ∨ (lookOf l).2 = 1 ∨ (lookOf l).2 = 2 := by
  unfold lookOf
  split
  · exact .inl rfl
  · split
    · exact .inr (.inl rfl)
    · exact .inr (.inr rfl)
end Kp
namespace Lg
open Dk (lookOf)
def readErr (M : Dk.Md) (a : Int) (n : Nat) : Int := if M.off then 14 else if bad n (Kp.sees M a) then 9 else 0
theorem place_next {n : Nat} (f : Nat → List UInt8) {k : Nat} (h : k < n) : (place n f).take (k + 1) = (place n f).take k ++ [(lookOf (f k)).1] := by
  rw [List.take_succ_eq_append_getElem (by rw [place_length]; exact h)]
  simp [place]
theorem bad_at {n : Nat} {f : Nat → List UInt8} {k : Nat} (h : k < n) (h2 : (lookOf (f k)).2 = 2) : bad n f = true := by
  rw [bad, List.any_eq_true]
  exact ⟨k, by simpa using h, by simpa using h2⟩
theorem bad_none {n : Nat} {f : Nat → List UInt8} (h : ∀ j, j < n → (lookOf (f j)).2 ≠ 2) : bad n f = false := by
  rw [bad, List.any_eq_false]
  intro j hj
  simpa using h j (by simpa using hj)
theorem place_bod (n : Nat) (f : Nat → List UInt8) : ∀ b ∈ place n f, Kp.Bod b := by
  intro b hb
  simp only [place, List.mem_map, List.mem_range] at hb
  obtain ⟨j, _, rfl⟩ := hb
  exact Kp.look_bod _
end Lg
set_option maxRecDepth 100000 in
set_option maxHeartbeats 1000000 in
theorem ptRead_any {B : Nat} {w0 w : World} {r : Nat} {fp : Nat → Prop} {M : Dk.Md} (h : Dk.Own B w0 w r fp M) (a : Int) (n : Nat) (hn1 : 1 ≤ n) (ha : 0 ≤ a) (hn : a + n ≤ M.lasts.length) :
    Calls Try.prog 35 #[.pointer (some ⟨r, 0, none⟩), .int .i64 a, .int .i64 (n : Int)] w fun e w' => Below w.heap.size w w' ∧ ∃ v, e = .returned (.tuple #[v, .int .i64 (Lg.readErr M a n)]) ∧
      (Lg.readErr M a n = 0 → ∃ A c, v = .slice A n c ∧ n ≤ c ∧ Kp.StrsAt w' A (Lg.place n (Kp.sees M a))) := by
  obtain ⟨i0, hie, hz0, hz1, hz2⟩ := info_parts Dk.info3_str
  have hok := h.disk.ok
  have hM := hok.n
  have RD : Hid (∀ (i : Int) (wx : World), Below w.heap.size w wx → Calls Try.prog 56 #[.pointer (some ⟨r, 0, none⟩), .int .i64 i] wx fun e w' => e = .returned (.tuple #[.string ⟨(Dk.readOf M i).1.toArray⟩, .int .i64 (Dk.readOf M i).2]) ∧ Below wx.heap.size wx w') := fun i wx hwx => by
    refine (Dk.read_in (h.low hwx) i).mono ?_
    rintro e w' ⟨rfl, -, hb⟩
    exact ⟨rfl, hb⟩
  obtain ⟨E, hE⟩ : ∃ E, E = Lg.readErr M a n := ⟨_, rfl⟩
  obtain ⟨L, hL⟩ : ∃ L, L = Lg.place n (Kp.sees M a) := ⟨_, rfl⟩
  have LL : Hid (L.length = n) := by show L.length = n; rw [hL]; exact Lg.place_length _ _
  have LK : Hid (∀ k, k < n → L.take (k + 1) = L.take k ++ [(Dk.lookOf (Kp.sees M a k)).1]) := fun k hk => by rw [hL]; exact Lg.place_next _ hk
  rw [← hE, ← hL]
  have HE := Lib.hid hE
  clear h hE hL
  go_enter Try.func35, Try.ntmps35
  go_wp2
  go_loopw [8, 15] (fun s8 s15 wr => ∃ k : Nat, s15 = .int .i64 k ∧ k ≤ n ∧ (k = 0 ∨ M.off = false) ∧ (∀ j, j < k → (Dk.lookOf (Kp.sees M a j)).2 ≠ 2) ∧ wr.ownsRow w.heap.size 9 1 s8 (L.take k).length ((L.take k).map Dk.txt) ∧ Below w.heap.size w wr) (fun _ s15 _ => n - (intOf s15).toNat)
  case atStart => exact ⟨0, rfl, Nat.zero_le _, .inl rfl, fun j hj => by omega, World.ownsRow_nil _ _ _ _, Below.refl _ _⟩
  case round =>
    obtain ⟨k, rfl, hk, hoff, hall, hown, hbl⟩ := hrel
    obtain ⟨Av, cv, hv⟩ := Sm.own_shape hown
    subst hv
    have HO := Lib.hid hown
    have HALL := Lib.hid hall
    have HBL := Lib.hid hbl
    clear hown hall
    by_cases hlt : k < n
    · have hki : (k : Int) < (n : Int) := by omega
      have hsuc : IntKind.i64.wrap ((k : Int) + 1) = ((k + 1 : Nat) : Int) := by simp [IntKind.wrap, IntKind.bits, IntKind.signed]; omega
      have hat : IntKind.i64.wrap (a + (k : Int)) = a + (k : Int) := IntWalk.i64_in _ (by omega)
      have hln : (L.take k).length = k := by rw [List.length_take, LL.out]; omega
      rw [hln] at HO ⊢
      have RDK := Lib.hid (RD.out (a + (k : Int)) wr hbl)
      by_cases hof : M.off = true
      · have e1 : Dk.readOf M (a + (k : Int)) = ([], 14) := by rw [Dk.readOf, if_pos hof]
        have e2 : E = 14 := by rw [HE.out, Lg.readErr, if_pos hof]
        rw [e1] at RDK
        subst e2
        clear hbl e1
        go_wp2_with (go_at_call 56; refine RDK.out.mono ?_; rintro e w2 ⟨rfl, k2⟩)
        go_ret2
        exact ⟨HBL.out.trans (k2.mono HBL.out.size), _, rfl, fun h => by cases h⟩
      · have hof2 : M.off = false := by simpa using hof
        have e1 : Dk.readOf M (a + (k : Int)) = (Kp.sees M a k, 0) := by
          rw [Dk.readOf, if_neg hof, if_pos (Dk.there_iff.2 ⟨by omega, by omega⟩), Kp.sees, show (a + (k : Int)).toNat = a.toNat + k by omega]
        rw [e1] at RDK
        obtain ⟨s, hs⟩ : ∃ s : ByteArray, s = ⟨(Kp.sees M a k).toArray⟩ := ⟨_, rfl⟩
        have hsl : s.data.toList = Kp.sees M a k := by rw [hs]
        have LO : Hid (∀ wx : World, Calls Try.prog 57 #[.string s] wx fun e w' => e = .returned (.tuple #[.string ⟨(Dk.lookOf (Kp.sees M a k)).1.toArray⟩, .int .i64 (Dk.lookOf (Kp.sees M a k)).2]) ∧ Below wx.heap.size wx w') := fun wx => by rw [← hsl]; exact dkLook_any wx s
        obtain ⟨b, hb⟩ : ∃ b : ByteArray, b = ⟨(Dk.lookOf (Kp.sees M a k)).1.toArray⟩ := ⟨_, rfl⟩
        obtain ⟨st, hn2⟩ : ∃ n, n = (Dk.lookOf (Kp.sees M a k)).2 := ⟨_, rfl⟩
        rw [← hs] at RDK
        rw [← hb, ← hn2] at LO
        have HB := Lib.hid hb
        have HN := Lib.hid hn2
        have NX := Lib.hid (LK.out k hlt)
        clear e1 hs hsl hb hn2 hbl
        by_cases h2 : st = 2
        · have e2 : E = 9 := by rw [HE.out, Lg.readErr, if_neg hof, if_pos (Lg.bad_at hlt (HN.out.symm.trans h2))]
          subst e2
          subst h2
          go_wp2_with (first
            | (go_at_call 56; refine RDK.out.mono ?_; rintro e w2 ⟨rfl, k2⟩)
            | (go_at_call 57; refine (LO.out _).mono ?_; rintro e w3 ⟨rfl, k3⟩))
          go_ret2
          exact ⟨HBL.out.trans ((k2.trans (k3.mono k2.size)).mono HBL.out.size), _, rfl, fun h => by cases h⟩
        · have hws := HBL.out.size
          go_wp2_with (first
            | (go_at_call 56; refine RDK.out.mono ?_; rintro e w2 ⟨rfl, k2⟩)
            | (go_at_call 57; refine (LO.out _).mono ?_; rintro e w3 ⟨rfl, k3⟩)
            | (at_builtin
               refine wpList_append_own _ rfl _ _ 29 rfl w.heap.size 9 i0 (.string ⟨#[]⟩) 1 16 Try.underlying29 hie hz0 hz1 hz2 rfl (by decide) _ _ _ rfl ((Dk.own_block (Dk.own_block HO.out (fun q hq => k2.block q (Dk.own_blk HO.out hq).2.1)) (fun q hq => k3.block q (by have := (Dk.own_blk HO.out hq).2.1; have := k2.size; omega))).alloc _) ⟨w3.heap.size, 0, none⟩ 1 1 [.string b] rfl rfl (Dk.new_text _ _) (by intro u hu; simp at hu; subst hu; rfl) (by unfold maxLen; omega) (by omega) (by have := k2.size; have := k3.size; simp; omega) ?_
               intro v' w5 hown' hgrow _))
          have hge : ∀ q, (Value.slice Av k cv).ownBlock = some q → w.heap.size ≤ q := fun q hq => (Dk.own_blk HO.out hq).1
          have b3 : Below w.heap.size w w3 := HBL.out.trans ((k2.trans (k3.mono k2.size)).mono HBL.out.size)
          have hb5 : Below w.heap.size w w5 := (b3.alloc b3.size _).grown hgrow (by have := b3.size; simp; omega) hge
          have hl5 : (L.take (k + 1)).length = k + 1 := by rw [List.length_take, LL.out]; omega
          have ho5 : w5.ownsRow w.heap.size 9 1 v' (L.take (k + 1)).length ((L.take (k + 1)).map Dk.txt) := by
            rw [hl5, NX.out, List.map_append, List.map_cons, List.map_nil, show Dk.txt (Dk.lookOf (Kp.sees M a k)).1 = .string b from congrArg Value.string HB.out.symm]
            exact hown'
          refine ⟨⟨k + 1, by push_cast; rfl, by omega, .inr hof2, fun j hj => ?_, ho5, hb5⟩, by simp only [intOf]; omega⟩
          by_cases hjk : j = k
          · rw [hjk, ← HN.out]; exact h2
          · exact HALL.out j (by omega)
    · have hki : ¬ (k : Int) < (n : Int) := by omega
      have hk20 : k = n := by omega
      subst hk20
      have hof : M.off = false := by rcases hoff with h | h; omega; exact h
      have hE0 : E = 0 := by rw [HE.out, Lg.readErr, hof, Lg.bad_none HALL.out]; rfl
      have htk : L.take k = L := List.take_of_length_le (by rw [LL.out]; omega)
      rw [htk] at HO ⊢
      have hne : L ≠ [] := fun e => by have := LL.out; rw [e] at this; simp at this; omega
      obtain ⟨A', c', e1, hcap, hs, -⟩ := Kp.StrsAt.of_own HO.out hne
      simp only [Value.slice.injEq] at e1
      obtain ⟨rfl, -, rfl⟩ := e1
      rw [LL.out] at hcap
      rw [LL.out]
      have HS := Lib.hid hs
      have HCP := Lib.hid hcap
      subst hE0
      clear hs hcap hoff hne htk
      go_wp2
      go_ret2
      exact ⟨HBL.out, _, rfl, _, _, rfl, HCP.out, HS.out⟩
end Go.Proofs.Ytmdhnokgjapglaa
