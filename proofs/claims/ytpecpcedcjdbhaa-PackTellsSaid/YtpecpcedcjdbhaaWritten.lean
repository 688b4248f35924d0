/-
  What the statements' helper written does: the items that can be written, each with a bound that its text keeps.
-/
import Derived.Test.YtpecpcedcjdbhaaBare
namespace Go.Proofs.Ytpecpcedcjdbhaa
open Go.RowKit Pk

def keepI (a : It) : It := ⟨a.d, a.n, a.i, a.s, a.b, a.s.size⟩
def writtenL (l : List It) : List It := (l.filter fun a => decide (a.d < 4)).map keepI
def itCells (a : It) : List Value := [.int .u8 a.d, .int .u64 a.n, .int .i64 a.i, .string a.s, .int .u8 a.b, .int .i64 a.m]

theorem writtenL_take {l : List It} {k : Nat} (h : k < l.length) : writtenL (l.take (k + 1)) = writtenL (l.take k) ++ (if l[k].d < 4 then [keepI l[k]] else []) := by
  rw [List.take_succ_eq_append_getElem h]
  unfold writtenL
  rw [List.filter_append, List.map_append]
  by_cases hd : l[k].d < 4 <;> simp [hd]
theorem writtenL_len (l : List It) : (writtenL l).length ≤ l.length := by
  unfold writtenL
  rw [List.length_map]
  exact List.length_filter_le _ _
theorem writtenL_total (l : List It) : total (writtenL l) ≤ total l := by
  induction l with
  | nil => simp [writtenL]
  | cons a l ih =>
    have e : writtenL (a :: l) = (if a.d < 4 then [keepI a] else []) ++ writtenL l := by
      unfold writtenL
      by_cases hd : a.d < 4 <;> simp [hd]
    rw [e, total_append, total_cons]
    split
    · simp [total, keepI] at *; omega
    · simp [total] at *; omega
theorem writtenL_ok {l : List It} (h : ∀ a ∈ l, a.Ok) : ∀ a ∈ writtenL l, a.Ok ∧ a.d < 4 ∧ a.m = a.s.size := by
  intro a ha
  obtain ⟨b, hb, rfl⟩ := List.mem_map.1 ha
  rw [List.mem_filter] at hb
  obtain ⟨h1, h2, h3, h4, h5, h6⟩ := h b hb.1
  exact ⟨⟨h1, h2, h3, h4, h5, by show -9223372036854775808 ≤ (b.s.size : Int) ∧ (b.s.size : Int) ≤ 9223372036854775807; omega⟩, of_decide_eq_true hb.2, rfl⟩

theorem info_item : (Try.prog.info? 24).map (fun i => (i.zero, i.size, i.bytes)) = some (some (.agg #[.int .u8 0, .int .u64 0, .int .i64 0, .string ⟨#[]⟩, .int .u8 0, .int .i64 0]), 6, 56) := by kernel_rfl

theorem ret_slice {A : Option Addr} {n n' c : Nat} (h : n = n') : Ending.returned (.slice A n c) = .returned (.slice A n' c) := by rw [h]

theorem six_new (w : World) (o : Obj) (a : It) : ∀ j u, (itCells a)[j]? = some u →
    ((w.alloc o).alloc (.cells #[.int .u8 a.d, .int .u64 a.n, .int .i64 a.i, .string a.s, .int .u8 a.b, .int .i64 a.m] 24)).cell? ((⟨w.heap.size + 1, 0, none⟩ : Addr).add j) = some u := by
  intro j u hu
  have q := two_new (w := w) o #[.int .u8 a.d, .int .u64 a.n, .int .i64 a.i, .string a.s, .int .u8 a.b, .int .i64 a.m]
  rw [Addr.add_lit, Nat.zero_add]
  exact cells_of q j u (by simpa [itCells] using hu)
theorem six_one (a : It) : ∀ u ∈ itCells a, u.oneCell' = true := by
  intro u hu
  simp [itCells] at hu
  rcases hu with rfl | rfl | rfl | rfl | rfl | rfl <;> rfl

set_option maxHeartbeats 4000000 in
theorem written_some (w : World) (b off c : Nat) (l : List It) (hl : l.length ≤ 200) (hb : b < w.heap.size) (hok : ∀ a ∈ l, a.Ok) (hit : itemsAt w b off l) :
    Calls Try.prog 29 #[.slice (some ⟨b, off, none⟩) l.length c] w fun e w' => ∃ A c', e = .returned (.slice A (writtenL l).length c') ∧ Below w.heap.size w w' ∧
      w'.ownsRow w.heap.size 24 6 (.slice A (writtenL l).length c') (writtenL l).length ((writtenL l).flatMap itCells) := by
  obtain ⟨i0, hi, hz0, hz1, hz2⟩ := info_parts info_item
  have HIT := Lib.hid hit
  have HOK := Lib.hid hok
  clear hit hok
  go_enter Try.func29, Try.ntmps29
  go_wp2_with fail
  go_loopw [3, 4] (fun v i wr => ∃ (k : Nat) (A : Option Addr) (c' : Nat), k ≤ l.length ∧ i = .int .i64 k ∧ v = .slice A (writtenL (l.take k)).length c' ∧ Below w.heap.size w wr ∧
    wr.ownsRow w.heap.size 24 6 (.slice A (writtenL (l.take k)).length c') (writtenL (l.take k)).length ((writtenL (l.take k)).flatMap itCells)) (fun _ i _ => l.length - (intOf i).toNat)
  case atStart => exact ⟨0, none, 0, Nat.zero_le _, rfl, rfl, Below.refl _ _, World.ownsRow_nil _ _ _ _⟩
  case round =>
    obtain ⟨k, A, c', hk, rfl, rfl, hbe, hown⟩ := hrel
    have HOWN := Lib.hid hown
    clear hown
    by_cases hlt : k < l.length
    · have hlt1 : (k : Int) < l.length := by omega
      have hkk := (HIT.out k hlt).below hbe hb
      have hoka := HOK.out _ (List.getElem_mem hlt)
      have HW := Lib.hid (writtenL_take hlt)
      have hwl := writtenL_len (l.take k)
      rw [List.length_take, Nat.min_eq_left hk] at hwl
      generalize l[k] = a at *
      obtain ⟨c0, c1, c2, c3, c4, c5⟩ := hkk
      obtain ⟨ho1, ho2, ho3, ho4, ho5, ho6⟩ := hoka
      by_cases hd : a.d < 4
      · have hd1 : (a.d : Int) < 4 := by omega
        have hbs := hbe.size
        have Hbe := Lib.hid hbe
        clear hbe
        go_wp2_with (at_builtin; refine wpList_append_own _ rfl _ _ 32 rfl w.heap.size 24 i0 (.agg #[.int .u8 0, .int .u64 0, .int .i64 0, .string ⟨#[]⟩, .int .u8 0, .int .i64 0]) 6 56 Try.underlying32 hi hz0 hz1 hz2 rfl (by decide) _ _ _ rfl ((HOWN.out.alloc _).alloc _) ⟨wr.heap.size + 1, 0, none⟩ 1 1 (itCells (keepI a)) rfl rfl (six_new _ _ (keepI a)) (six_one (keepI a)) (by unfold maxLen; omega) (by omega) (by simp; omega) ?_
                     intro v' w1 hown' hgrow _
                     obtain ⟨A', c'', rfl⟩ := own_shape hown'
                     have HX := Lib.hid hown'
                     have HB := Lib.hid (Below.grown ((Hbe.out.alloc Hbe.out.size _).alloc (by have := Hbe.out.size; simp; omega) _) hgrow (by have := Hbe.out.size; simp; omega) (fun j hj => (HOWN.out.lt _ hj).1))
                     clear hown' hgrow)
        go_roundw
        case rel =>
          have h := HW.out
          rw [if_pos hd] at h
          have hlen : (writtenL (l.take (k + 1))).length = (writtenL (l.take k)).length + 1 := by rw [h]; simp
          refine ⟨k + 1, A', c'', by omega, by go_num, by rw [hlen], HB.out, ?_⟩
          rw [hlen, h, List.flatMap_append]
          have := HX.out
          simpa using this
        case measure => simp [intOf]; omega
      · have hd1 : ¬ (a.d : Int) < 4 := by omega
        go_wp2_with fail
        go_roundw
        case rel => 
          have h := HW.out
          rw [if_neg hd, List.append_nil] at h
          exact ⟨k + 1, A, c', by omega, by go_num, by rw [h], hbe, by rw [h]; exact HOWN.out⟩
        case measure => simp [intOf]; omega
    · obtain rfl : k = l.length := by omega
      have h := HOWN.out
      rw [List.take_length] at h
      have HO := Lib.hid h
      have e : l.take l.length = l := List.take_length
      clear h
      go_wp2_with fail
      go_ret
      exact ⟨A, c', ret_slice (by rw [e]), hbe, HO.out⟩

theorem flat_at (l : List It) : ∀ (k : Nat) (hk : k < l.length) (j : Nat), j < 6 → (l.flatMap itCells)[k * 6 + j]? = (itCells l[k])[j]? := by
  induction l with
  | nil => intro k hk; simp at hk
  | cons a l ih =>
    intro k hk j hj
    rw [List.flatMap_cons]
    have h6 : (itCells a).length = 6 := rfl
    cases k with
    | zero => rw [List.getElem?_append_left (by omega)]; simp
    | succ k =>
      rw [List.getElem?_append_right (by omega), h6, show (k + 1) * 6 + j - 6 = k * 6 + j from by omega]
      exact ih k (by simpa using hk) j hj

/-- Items that are owned lie where the slice says. -/
theorem own_items {w : World} {B : Nat} {A : Option Addr} {c : Nat} {l : List It} (h : w.ownsRow B 24 6 (.slice A l.length c) l.length (l.flatMap itCells)) :
    l.length ≤ c ∧ (l = [] ∨ ∃ b off, A = some ⟨b, off, none⟩ ∧ B ≤ b ∧ b < w.heap.size ∧ itemsAt w b off l) := by
  rcases h.2 with ⟨hv, hn⟩ | ⟨g, cap, cur, hv, hB, hh, hn, _, _, htk⟩
  · exact ⟨by omega, .inl (List.eq_nil_of_length_eq_zero hn)⟩
  · simp only [Value.slice.injEq] at hv
    obtain ⟨rfl, _, rfl⟩ := hv
    refine ⟨hn, .inr ⟨g, 0, rfl, hB, (Array.getElem?_eq_some_iff.1 hh).1, fun k hk => ?_⟩⟩
    have hc : ∀ j, j < 6 → w.cell? ⟨g, 0 + k * 6 + j, none⟩ = (itCells l[k])[j]? := by
      intro j hj
      rw [← flat_at l k hk j hj, ← htk, List.getElem?_take, if_pos (by omega), Nat.zero_add]
      simp [World.cell?, hh]
    exact ⟨hc 0 (by omega), hc 1 (by omega), hc 2 (by omega), hc 3 (by omega), hc 4 (by omega), hc 5 (by omega)⟩

set_option maxHeartbeats 1000000 in
theorem written_none (w : World) (A : Option Addr) (c : Nat) : Calls Try.prog 29 #[.slice A 0 c] w fun e w' => e = .returned (.slice none 0 0) ∧ w = w' := by
  go_enter Try.func29, Try.ntmps29
  go_wp2
  refine wp_loop_rounds 1 ?_
  rw [rounds_succ]
  go_wp2
  go_ret
  exact ⟨rfl, rfl⟩

/-- The items that can be written, behind all that was there. -/
theorem written_any (w : World) (A : Option Addr) (c : Nat) (l : List It) (hl : l.length ≤ 200) (hok : ∀ a ∈ l, a.Ok) (hit : listAt w A l) :
    Calls Try.prog 29 #[.slice A l.length c] w fun e w' => ∃ A' c', e = .returned (.slice A' (writtenL l).length c') ∧ Below w.heap.size w w' ∧ (writtenL l).length ≤ c' ∧
      (writtenL l = [] ∨ ∃ b off, A' = some ⟨b, off, none⟩ ∧ w.heap.size ≤ b ∧ b < w'.heap.size ∧ itemsAt w' b off (writtenL l)) := by
  rcases hit with rfl | ⟨b, off, rfl, hb, hit⟩
  · refine (written_none w A c).mono ?_
    rintro e w' ⟨rfl, rfl⟩
    exact ⟨none, 0, rfl, Below.refl _ _, Nat.le_refl _, .inl rfl⟩
  · refine (written_some w b off c l hl hb hok hit).mono ?_
    rintro e w' ⟨A', c', rfl, hbe, hown⟩
    exact ⟨A', c', rfl, hbe, own_items hown⟩
end Go.Proofs.Ytpecpcedcjdbhaa
