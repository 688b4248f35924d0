/-
  RingLasts: what a ring wrapped it opens ever after, and so does another ring of the same master that has come as far; one that has not refuses.
-/
import Derived.Test.YtapogiihkbjppaaGreatDoorRiOwn
import Derived.Test.YtapogiihkbjppaaGreatDoorRiNew
import Derived.Test.YtapogiihkbjppaaGreatDoorRiWrap
import Derived.Test.YtapogiihkbjppaaGreatDoorRiOpen
import Derived.Test.YtapogiihkbjppaaGreatDoorRiAwake
namespace Go.Proofs.YtapogiihkbjppaaGreatDoor
open Go.RowKit
namespace Ri
/-- What was wrapped so far, and under which keys. -/
structure Made (wx : World) (N : Nat) (bw : Nat → Int → ByteArray) (A1 : Option Addr) (c1 : Nat) (A2 : Option Addr) (c2 : Nat) (k : Nat) (ats : List Int) : Prop where
  len : ats.length = k
  strs : ∃ xs, wx.ownsRow N 9 1 (.slice A1 k c1) k xs ∧ ∀ j, j < k → xs[j]? = some (.string (bw j (ats.getD j 0)))
  ints : wx.ownsRow N 3 1 (.slice A2 k c2) k (ats.map (Value.int .i64))
theorem row_types : 9 ≠ 66 ∧ 9 ≠ 113 ∧ 3 ≠ 66 ∧ 3 ≠ 113 ∧ 9 ≠ 3 := by decide
theorem Made.turned {w w' : World} {N : Nat} {bw : Nat → Int → ByteArray} {A1 A2 : Option Addr} {c1 c2 k : Nat} {ats : List Int} (q : Made w N bw A1 c1 A2 c2 k ats) {r m : Nat} {M : ByteArray} {boot n : Nat} {cur : Int} (h : RingAt w r m M boot n cur) (t : Turned w w' r m) : Made w' N bw A1 c1 A2 c2 k ats := by
  obtain ⟨xs, h1, h2⟩ := q.strs
  exact ⟨q.len, ⟨xs, own_turned h t h1 row_types.1, h2⟩, own_turned h t q.ints row_types.2.2.1⟩
theorem Made.below {w w' : World} {N : Nat} {bw : Nat → Int → ByteArray} {A1 A2 : Option Addr} {c1 c2 k : Nat} {ats : List Int} (q : Made w N bw A1 c1 A2 c2 k ats) (t : Below w.heap.size w w') : Made w' N bw A1 c1 A2 c2 k ats := by
  obtain ⟨xs, h1, h2⟩ := q.strs
  exact ⟨q.len, ⟨xs, own_below h1 t, h2⟩, own_below q.ints t⟩
theorem Made.addr {w : World} {N : Nat} {bw : Nat → Int → ByteArray} {A1 A2 : Option Addr} {c1 c2 k : Nat} {ats : List Int} (q : Made w N bw A1 c1 A2 c2 k ats) {j : Nat} (hj : j < k) : (∃ g, A1 = some ⟨g, 0, none⟩) ∧ ∃ g, A2 = some ⟨g, 0, none⟩ := by
  obtain ⟨xs, h1, _⟩ := q.strs
  obtain ⟨g, e, _⟩ := own_get h1 hj
  obtain ⟨g', e', _⟩ := own_get q.ints hj
  exact ⟨⟨g, e⟩, ⟨g', e'⟩⟩
theorem Made.get {w : World} {N g g' : Nat} {bw : Nat → Int → ByteArray} {c1 c2 k : Nat} {ats : List Int} (q : Made w N bw (some ⟨g, 0, none⟩) c1 (some ⟨g', 0, none⟩) c2 k ats) {j : Nat} (hj : j < k) : w.cell? ⟨g, j, none⟩ = some (.string (bw j (ats.getD j 0))) ∧ w.cell? ⟨g', j, none⟩ = some (.int .i64 (ats.getD j 0)) := by
  obtain ⟨xs, h1, h2⟩ := q.strs
  obtain ⟨h, e, hc⟩ := own_get h1 hj
  obtain ⟨h', e', hc'⟩ := own_get q.ints hj
  cases e
  cases e'
  rw [Nat.zero_add] at hc hc'
  refine ⟨hc.trans (h2 j hj), hc'.trans ?_⟩
  have hjl : j < ats.length := by rw [q.len]; exact hj
  rw [List.getElem?_map, List.getD_eq_getElem?_getD, List.getElem?_eq_getElem hjl]
  rfl
theorem one_new (w : World) (t : TypeId) (v : Value) : ∀ j u, [v][j]? = some u → (w.alloc (.cells #[v] t)).cell? ((⟨w.heap.size, 0, none⟩ : Addr).add j) = some u := fun j u hu => by
  have q := heap_alloc_new w (.cells #[v] t)
  rw [Addr.add_lit, Nat.zero_add]
  exact Sm.cells_of q j u (by simpa using hu)
theorem info_string : (Tryz.prog.info? 9).map (fun i => (i.zero, i.size, i.bytes)) = some (some (.string ⟨#[]⟩), 1, 16) := by kernel_rfl
theorem info_int : (Tryz.prog.info? 3).map (fun i => (i.zero, i.size, i.bytes)) = some (some (.int .i64 0), 1, 8) := by kernel_rfl
theorem snoc_strs {xs : List Value} {bw : Nat → Int → ByteArray} {ats : List Int} {k : Nat} {cur : Int} (hx : xs.length = k) (hl : ats.length = k) (h : ∀ j, j < k → xs[j]? = some (.string (bw j (ats.getD j 0)))) : ∀ j, j < k + 1 → (xs ++ [.string (bw k cur)])[j]? = some (.string (bw j ((ats ++ [cur]).getD j 0))) := fun j hj => by
  rw [List.getD_eq_getElem?_getD]
  by_cases hjk : j < k
  · rw [List.getElem?_append_left (by omega), List.getElem?_append_left (by omega), ← List.getD_eq_getElem?_getD]; exact h j hjk
  · obtain rfl : j = k := by omega
    rw [List.getElem?_append_right (by omega), List.getElem?_append_right (by omega), hx, hl]
    simp
end Ri

set_option maxRecDepth 100000 in
set_option maxHeartbeats 8000000 in
theorem ringLasts_some {w : World} (hH : Sm.HAt w) (hK : Sm.KAt w) (hsz : 1 < w.heap.size) (s : ByteArray) (hs : s.size ≤ 300) (current : Int) (hc0 : 0 ≤ current) (hc1 : current ≤ 1048476) (boot other : Nat) (hb : boot < 2 ^ 32)
    (A : Option Addr) (c : Nat) (l : List ByteArray) (hl : l.length ≤ 40) (hsl : ∀ i, (l.getD i ByteArray.empty).size ≤ 9223372036854775807) (hit : Ri.strsAt w A l) (A' : Option Addr) (c' : Nat) (ts : List Nat) (_htl : ts.length ≤ 9223372036854775807) (hts : Ri.u8sAt w A' ts) (about : ByteArray) (ha : about.size ≤ 300) :
    Calls Tryz.prog 7 #[.string s, .int .i64 current, .int .u32 boot, .int .u32 other, .slice A l.length c, .slice A' ts.length c', .string about] w fun e w' => e = .returned (.bool true) ∧ Below w.heap.size w w' := by
  obtain ⟨i0, hi, hz0, hz1, hz2⟩ := info_parts Ri.info_string
  obtain ⟨j0, hj, hy0, hy1, hy2⟩ := info_parts Ri.info_int
  have AW := Lib.hid (awake6_any hH hK hsz)
  have HH := Lib.hid hH
  have HK := Lib.hid hK
  have HIT : Hid (∀ wx : World, Below w.heap.size w wx → ∀ j, j < l.length → ∃ b o, A = some ⟨b, o, none⟩ ∧ wx.cell? ⟨b, o + j, none⟩ = some (.string (l.getD j ByteArray.empty))) := fun wx k j hj => hit.get k hj
  have HTS : Hid (∀ wx : World, Below w.heap.size w wx → ∀ j, j < ts.length → ∃ b o, A' = some ⟨b, o, none⟩ ∧ wx.cell? ⟨b, o + j, none⟩ = some (.int .u8 (ts.getD j 0 : Nat)) ∧ ts.getD j 0 < 256) := fun wx k j hj => hts.get k hj
  have HSL := Lib.hid hsl
  obtain ⟨bw, hbw⟩ : ∃ f : Nat → Int → ByteArray, ∀ j a, f j a = ⟨(Ri.wrap s.data.toList a boot j about.data.toList (l.getD j ByteArray.empty).data.toList).1.toArray⟩ := ⟨_, fun _ _ => rfl⟩
  have hbs : ∀ j a, 0 ≤ a ∧ a ≤ 1048576 → j < 40 → (bw j a).size ≤ 9000 := fun j a h1 h2 => by
    rw [hbw]
    show (List.toArray _).size ≤ _
    rw [List.size_toArray]; exact Ri.wrap_length h1 hb (by omega)
  have hll : ∀ j, (l.getD j ByteArray.empty).data.toList.length = (l.getD j ByteArray.empty).size := fun j => by rw [Array.length_toList]; rfl
  obtain ⟨N, hN⟩ : ∃ N, N = w.heap.size := ⟨_, rfl⟩
  have hN1 : 1 < N := by omega
  rw [← hN] at AW HIT HTS ⊢
  have HN := Lib.hid hN
  have NW1 : Hid (∀ wx : World, Calls Tryz.prog 10 #[.string s, .int .i64 current, .int .u32 boot] wx (Ri.NewPost wx s boot current)) := fun wx => rgNew_any wx s (by omega) boot current (by omega)
  have NW2 : Hid (∀ (wx : World) (cur : Int), 0 ≤ cur ∧ cur ≤ 1048576 → Calls Tryz.prog 10 #[.string s, .int .i64 cur, .int .u32 other] wx (Ri.NewPost wx s other cur)) := fun wx cur h => rgNew_any wx s (by omega) other cur h
  have WR : Hid (∀ (wx : World) (r m k : Nat) (cur : Int), Sm.HAt wx → Sm.KAt wx → Ri.RingAt wx r m s boot k cur → 0 ≤ cur ∧ cur ≤ 1048576 → k < 40 → (l.getD k ByteArray.empty).size ≤ 300 → Calls Tryz.prog 11 #[.pointer (some ⟨r, 0, none⟩), .string about, .string (l.getD k ByteArray.empty)] wx fun e w' => e = .returned (.tuple #[.string (bw k cur), .int .i64 0]) ∧ Ri.RingAt w' r m s boot (k + 1) cur ∧ Ri.Turned wx w' r m) := fun wx r m k cur x y z h1 h2 h3 => by
    rw [hbw]
    exact rgWrap_any x y (by omega) z h1 hb (by omega) about (l.getD k ByteArray.empty) (by omega) (by omega)
  have CU : Hid (∀ (wx : World) (r m n : Nat) (cur : Int), Ri.RingAt wx r m s boot n cur → Calls Tryz.prog 16 #[.pointer (some ⟨r, 0, none⟩)] wx fun e w' => e = .returned (.int .i64 cur) ∧ wx = w') := fun wx r m n cur h => rgCurrent_any h
  have RO : Hid (∀ (wx : World) (r m n : Nat) (cur : Int), Ri.RingAt wx r m s boot n cur → 0 ≤ cur ∧ cur < 1048576 → Calls Tryz.prog 12 #[.pointer (some ⟨r, 0, none⟩)] wx fun e w' => e = .returned (.int .i64 0) ∧ Ri.RingAt w' r m s boot n (cur + 1) ∧ wx.grownBy w' (some r)) := fun wx r m n cur h h2 => rgRotate_any h h2
  have OPY : Hid (∀ (wx : World) (r m bt n : Nat) (cur : Int) (j : Nat) (a : Int), Sm.HAt wx → Sm.KAt wx → Ri.RingAt wx r m s bt n cur → 0 ≤ a ∧ a ≤ 1048576 → j < 40 → (l.getD j ByteArray.empty).size ≤ 300 → a ≤ cur → Calls Tryz.prog 14 #[.pointer (some ⟨r, 0, none⟩), .string (bw j a), .string about] wx fun e w' => e = .returned (.tuple #[.string (l.getD j ByteArray.empty), .int .i64 0]) ∧ Ri.RingAt w' r m s bt n cur ∧ Ri.Turned wx w' r m) := fun wx r m bt n cur j a x y z h1 h2 h3 h4 => by
    have q := rgOpen_any x y (by omega) z (bw j a) about (by have := hbs j a h1 h2; omega) (by omega)
    unfold Ri.OpenPost at q
    have e : Ri.opens s.data.toList cur (bw j a) about.data.toList = ((l.getD j ByteArray.empty).data.toList, 0) := by
      rw [hbw]; exact Ri.opens_wrap h1 hb (by omega) (by rw [hll]; omega) h4
    rw [e] at q
    exact q
  have OPN : Hid (∀ (wx : World) (r m bt n : Nat) (cur : Int) (j : Nat) (a : Int), Sm.HAt wx → Sm.KAt wx → Ri.RingAt wx r m s bt n cur → 0 ≤ a ∧ a ≤ 1048576 → j < 40 → (l.getD j ByteArray.empty).size ≤ 300 → ¬ a ≤ cur → Calls Tryz.prog 14 #[.pointer (some ⟨r, 0, none⟩), .string (bw j a), .string about] wx fun e w' => e = .returned (.tuple #[.string ⟨#[]⟩, .int .i64 20]) ∧ Ri.RingAt w' r m s bt n cur ∧ Ri.Turned wx w' r m) := fun wx r m bt n cur j a x y z h1 h2 h3 h4 => by
    have q := rgOpen_any x y (by omega) z (bw j a) about (by have := hbs j a h1 h2; omega) (by omega)
    unfold Ri.OpenPost at q
    have e : Ri.opens s.data.toList cur (bw j a) about.data.toList = ([], 20) := by
      rw [hbw]; exact Ri.opens_early h1 hb (by omega) (by rw [hll]; omega) h4
    rw [e] at q
    exact q
  have g1 : ¬ (300 : Int) < s.size := by omega
  have g2 : ¬ (300 : Int) < about.size := by omega
  have g3 : ¬ (40 : Int) < l.length := by omega
  have g4 : ¬ current < 0 := by omega
  have g5 : ¬ (1048476 : Int) < current := by omega
  clear hN hH hK hsz hit hts hsl hbs hll hbw
  go_enter Tryz.func7, Tryz.ntmps7
  go_wp2_with fail
  refine (AW.out).mono ?_
  rintro e w1 ⟨rfl, b1⟩
  have B1 := Lib.hid b1
  have s1 := b1.size
  clear b1 AW
  go_wp2_with fail
  refine (NW1.out _).mono ?_
  rintro e w2 ⟨r, m, rfl, ra2, hr, hm, b2⟩
  have RA2 := Lib.hid ra2
  have B2 := Lib.hid (B1.out.trans (b2.mono (by have := HN.out; omega)))
  have hNr : N ≤ r := by have := HN.out; omega
  have hNm : N ≤ m := by have := HN.out; omega
  clear ra2 b2 NW1 B1 hr hm s1
  go_wp2_with fail
  go_loopw [17, 18, 19] (fun v1 v2 i wr => ∃ (k : Nat) (cur : Int) (ats : List Int) (A1 A2 : Option Addr) (c1 c2 : Nat) (wk : World), wk = wr ∧ k ≤ l.length ∧ i = .int .i64 k ∧ v1 = .slice A1 k c1 ∧ v2 = .slice A2 k c2 ∧ current ≤ cur ∧ cur ≤ current + 2 * k ∧
    (∀ j, j < k → current ≤ ats.getD j 0 ∧ ats.getD j 0 ≤ cur ∧ (l.getD j ByteArray.empty).size ≤ 300) ∧ Ri.RingAt wk r m s boot k cur ∧ Ri.Made wk N bw A1 c1 A2 c2 k ats ∧ Below N w wk) (fun _ _ i _ => l.length - (intOf i).toNat)
  case atStart => exact ⟨0, current, [], none, none, 0, 0, _, rfl, by omega, rfl, rfl, rfl, by omega, by omega, fun j hj => by omega, RA2.out, ⟨rfl, ⟨[], World.ownsRow_nil _ _ _ _, fun j hj => by omega⟩, World.ownsRow_nil _ _ _ _⟩, B2.out⟩
  case round =>
    clear RA2 B2
    obtain ⟨k, cur, ats, A1, A2, c1, c2, wk, rfl, hk, rfl, rfl, rfl, hcc, hcu, hat, ra, md, bk⟩ := hrel
    have RA := Lib.hid ra
    have MD := Lib.hid md
    have BK := Lib.hid bk
    have HAT := Lib.hid hat
    have hNs : N ≤ wk.heap.size := by have := bk.size; have := HN.out; omega
    clear ra bk md hat
    by_cases hlt : k < l.length
    · have hlt1 : (k : Int) < l.length := by omega
      obtain ⟨b, o, rfl, cl⟩ := HIT.out _ BK.out k hlt
      obtain ⟨x, hx⟩ : ∃ x, x = l.getD k ByteArray.empty := ⟨_, rfl⟩
      have hxs : x.size ≤ 9223372036854775807 := by rw [hx]; exact HSL.out k
      rw [← hx] at cl
      by_cases hbig : 300 < x.size
      · have hbi : (300 : Int) < x.size := by omega
        clear hx
        go_wp2
        go_ret
        exact ⟨rfl, BK.out⟩
      · have hbi : ¬ (300 : Int) < x.size := by omega
        have hx3 : (l.getD k ByteArray.empty).size ≤ 300 := by rw [← hx]; omega
        have WRK := WR.out wk r m k cur (HH.out.low BK.out (by omega)) (HK.out.low BK.out hN1) RA.out ⟨by omega, by omega⟩ (by omega) hx3
        rw [← hx] at WRK
        have WRKH := Lib.hid WRK
        clear WRK
        clear hx
        go_wp2_with fail
        refine (WRKH.out).mono ?_
        rintro e w3 ⟨rfl, ra3, tu3⟩
        have RA3 := Lib.hid ra3
        have MD3 := Lib.hid (MD.out.turned RA.out tu3)
        have B3 := Lib.hid (BK.out.trans (tu3.below hNr hNm hNs))
        have hNs3 : N ≤ w3.heap.size := by have := B3.out.size; have := HN.out; omega
        clear ra3 tu3 WRKH RA MD BK
        obtain ⟨bx, hbx⟩ : ∃ b, b = bw k cur := ⟨_, rfl⟩
        rw [← hbx]
        have HBX := Lib.hid hbx
        clear hbx
        obtain ⟨xs, ow1, hxs1⟩ := MD3.out.strs
        have OW1 := Lib.hid ow1
        have HXS := Lib.hid hxs1
        have OW2 := Lib.hid MD3.out.ints
        have HLEN := Lib.hid MD3.out.len
        clear ow1 hxs1 MD3
        go_wp2_with (at_builtin; refine wpList_append_own _ rfl _ _ 39 rfl N 9 i0 (.string ⟨#[]⟩) 1 16 Tryz.underlying39 hi hz0 hz1 hz2 rfl (by decide) _ _ _ rfl (OW1.out.alloc _) ⟨w3.heap.size, 0, none⟩ 1 1 [.string bx] rfl rfl (Ri.one_new _ _ _) (by intro u hu; simp at hu; subst hu; rfl) (by unfold maxLen; omega) (by omega) (by simp; omega) ?_
                     intro v' w4 hown' hgrow _
                     obtain ⟨A1', c1', rfl⟩ := Sm.own_shape hown')
        have HG := hown'.1
        have OW1' := Lib.hid hown'
        have RA4 := Lib.hid ((RA3.out.alloc _).grown (OW1.out.alloc _) hgrow Ri.row_types.1 Ri.row_types.2.1)
        have OW2' := Lib.hid (Ri.own_other (OW2.out.alloc _) (OW1.out.alloc _) hgrow Ri.row_types.2.2.2.2.symm)
        have B4 := Lib.hid (Below.grown (B3.out.alloc hNs3 _) hgrow (by simp; omega) (fun j hj => (OW1.out.lt _ hj).1))
        have hNs4 : N ≤ w4.heap.size := by have := B4.out.size; have := HN.out; omega
        clear hown' hgrow RA3 OW1 OW2 B3 HG
        refine (CU.out _ r m (k + 1) cur RA4.out).mono ?_
        rintro e w5 ⟨rfl, hw5⟩
        rw [← hw5]
        clear hw5
        go_wp2_with (at_builtin; refine wpList_append_own _ rfl _ _ 70 rfl N 3 j0 (.int .i64 0) 1 8 Tryz.underlying70 hj hy0 hy1 hy2 rfl (by decide) _ _ _ rfl (OW2'.out.alloc _) ⟨w4.heap.size, 0, none⟩ 1 1 [.int .i64 cur] rfl rfl (Ri.one_new _ _ _) (by intro u hu; simp at hu; subst hu; rfl) (by unfold maxLen; omega) (by omega) (by simp; omega) ?_
                     intro v' w6 hown' hgrow _
                     obtain ⟨A2', c2', rfl⟩ := Sm.own_shape hown'
                     have RA6 := Lib.hid ((RA4.out.alloc _).grown (OW2'.out.alloc _) hgrow Ri.row_types.2.2.1 Ri.row_types.2.2.2.1)
                     have OW1'' := Lib.hid (Ri.own_other (OW1'.out.alloc _) (OW2'.out.alloc _) hgrow Ri.row_types.2.2.2.2)
                     have B6 := Lib.hid (Below.grown (B4.out.alloc hNs4 _) hgrow (by simp; omega) (fun j hj => (OW2'.out.lt _ hj).1))
                     have OW2'' := Lib.hid hown'
                     clear hown' hgrow)
        have MD6 : Hid (Ri.Made w6 N bw A1' c1' A2' c2' (k + 1) (ats ++ [cur])) := by
          refine ⟨by rw [List.length_append, HLEN.out]; rfl, ⟨_, OW1''.out, ?_⟩, ?_⟩
          · rw [HBX.out]
            have hxl := OW1'.out.1
            exact Ri.snoc_strs (by simp at hxl; omega) HLEN.out HXS.out
          · rw [List.map_append]; exact OW2''.out
        have HAT6 : Hid (∀ j, j < k + 1 → current ≤ (ats ++ [cur]).getD j 0 ∧ (ats ++ [cur]).getD j 0 ≤ cur ∧ (l.getD j ByteArray.empty).size ≤ 300) := fun j hj => by
          rw [List.getD_eq_getElem?_getD]
          by_cases hjk : j < k
          · rw [List.getElem?_append_left (by rw [HLEN.out]; exact hjk), ← List.getD_eq_getElem?_getD]; exact HAT.out j hjk
          · obtain rfl : j = k := by omega
            have e : ((ats ++ [cur])[j]?).getD 0 = cur := by rw [List.getElem?_append_right (by rw [HLEN.out]; omega), HLEN.out]; simp
            rw [e]
            exact ⟨hcc, by omega, hx3⟩
        clear OW1' OW1'' OW2' OW2'' RA4 B4 HBX HXS HAT hNs4 hNs3
        obtain ⟨at6, hat6⟩ : ∃ a, a = ats ++ [cur] := ⟨_, rfl⟩
        rw [← hat6] at MD6 HAT6
        clear hat6 HLEN
        obtain ⟨nn, hnn⟩ : ∃ nn, nn = if k < ts.length then ts.getD k 0 % 3 else 0 := ⟨_, rfl⟩
        have hnn2 : nn ≤ 2 := by rw [hnn]; split <;> omega
        have HNN := Lib.hid hnn
        clear hnn
        go_loopw [22] (fun i wr => ∃ (q : Nat) (wq : World), wq = wr ∧ q ≤ nn ∧ i = .int .i64 q ∧ Ri.RingAt wq r m s boot (k + 1) (cur + q) ∧ Ri.Made wq N bw A1' c1' A2' c2' (k + 1) at6 ∧ Below N w wq) (fun i _ => nn - (intOf i).toNat)
        case atStart => exact ⟨0, _, rfl, by omega, rfl, by simpa using RA6.out, MD6.out, B6.out⟩
        case round =>
          clear RA6 MD6 B6
          obtain ⟨q, wq, rfl, hq, rfl, raq, mdq, bq⟩ := hrel
          have RAQ := Lib.hid raq
          have MDQ := Lib.hid mdq
          have BQ := Lib.hid bq
          have hNsq : N ≤ wq.heap.size := by have := bq.size; have := HN.out; omega
          clear raq mdq bq
          by_cases hkt : k < ts.length
          · have hkti : (k : Int) < ts.length := by omega
            obtain ⟨b', o', rfl, ct, ht256⟩ := HTS.out _ BQ.out k hkt
            have hnn := HNN.out
            rw [if_pos hkt] at hnn
            obtain ⟨y, hy⟩ : ∃ y, y = ts.getD k 0 := ⟨_, rfl⟩
            rw [← hy] at ct ht256 hnn
            clear hy
            have m1 : ((y : Int)).tmod 3 = nn := by rw [Int.tmod_eq_emod_of_nonneg (by omega)]; omega
            have mw : IntKind.u8.wrap (nn : Int) = nn := by rw [IntKind.wrap_u8']; omega
            have mw2 : IntKind.i64.wrap (nn : Int) = nn := IntWalk.i64_in _ (by omega)
            by_cases hqn : q < nn
            · have hqni : (q : Int) < nn := by omega
              go_wp2_with fail
              refine (RO.out _ r m (k + 1) (cur + q) RAQ.out ⟨by omega, by omega⟩).mono ?_
              rintro e w7 ⟨rfl, ra7, gr7⟩
              have tu7 := Ri.Turned.of_ring (m := m) gr7
              have RA7 := Lib.hid ra7
              have MD7 := Lib.hid (MDQ.out.turned RAQ.out tu7)
              have B7 := Lib.hid (BQ.out.trans (tu7.below hNr hNm hNsq))
              clear ra7 gr7 tu7
              go_wp2_with fail
              go_roundw
              case rel => exact ⟨q + 1, _, rfl, by omega, by go_num, by have := RA7.out; rw [show cur + ((q + 1 : Nat) : Int) = cur + q + 1 by omega]; exact this, MD7.out, B7.out⟩
              case measure => simp [intOf]; omega
            · obtain rfl : q = nn := by omega
              have hqni : ¬ (q : Int) < q := by omega
              go_wp2_with fail
              go_roundw
              case rel => exact ⟨k + 1, cur + q, at6, A1', A2', c1', c2', _, rfl, by omega, by go_num, by go_num, by go_num, by omega, by omega, fun j hj => by
                have h := HAT6.out j hj
                exact ⟨h.1, by omega, h.2.2⟩, RAQ.out, MDQ.out, BQ.out⟩
              case measure => simp [intOf]; omega
          · have hkti : ¬ (k : Int) < ts.length := by omega
            go_wp2_with fail
            go_roundw
            case rel => exact ⟨k + 1, cur + q, at6, A1', A2', c1', c2', _, rfl, by omega, by go_num, by go_num, by go_num, by omega, by omega, fun j hj => by
              have h := HAT6.out j hj
              exact ⟨h.1, by omega, h.2.2⟩, RAQ.out, MDQ.out, BQ.out⟩
            case measure => simp [intOf]; omega
    · have hkl : l.length = k := by omega
      have hlt1 : ¬ (k : Int) < l.length := by omega
      have hlt' := RA.out.lt
      go_wp2_with fail
      refine (CU.out _ r m k cur RA.out).mono ?_
      rintro e w3 ⟨rfl, hw3⟩
      rw [← hw3]
      clear hw3
      go_wp2_with fail
      refine (NW2.out _ cur ⟨by omega, by omega⟩).mono ?_
      rintro e w4 ⟨r2, m2, rfl, rb4, hr2, hm2, b4⟩
      have RA4 := Lib.hid (RA.out.below b4 (Nat.le_refl _))
      have RB4 := Lib.hid rb4
      have MD4 := Lib.hid (MD.out.below b4)
      have B4 := Lib.hid (BK.out.trans (b4.mono hNs))
      have hlt2 := rb4.lt
      have hNs4 : N ≤ w4.heap.size := by have := b4.size; omega
      have s4 := b4.size
      clear rb4 b4 RA MD BK
      go_wp2_with fail
      refine (NW2.out _ current ⟨by omega, by omega⟩).mono ?_
      rintro e w5 ⟨r3, m3, rfl, rc5, hr3, hm3, b5⟩
      have RA5 := Lib.hid (RA4.out.below b5 (Nat.le_refl _))
      have RB5 := Lib.hid (RB4.out.below b5 (Nat.le_refl _))
      have RC5 := Lib.hid rc5
      have MD5 := Lib.hid (MD4.out.below b5)
      have B5 := Lib.hid (B4.out.trans (b5.mono hNs4))
      have n12 : r ≠ r2 ∧ m ≠ m2 := by omega
      have n13 : r ≠ r3 ∧ m ≠ m3 := by omega
      have n23 : r2 ≠ r3 ∧ m2 ≠ m3 := by omega
      have hN2 : N ≤ r2 ∧ N ≤ m2 := by omega
      have hN3 : N ≤ r3 ∧ N ≤ m3 := by omega
      clear rc5 b5 RA4 RB4 MD4 B4 NW2 WR RO CU HTS
      go_wp2_with fail
      go_loopw [26] (fun i wr => ∃ (j : Nat) (wz : World), wz = wr ∧ j ≤ k ∧ i = .int .i64 j ∧ Ri.RingAt wz r m s boot k cur ∧ Ri.RingAt wz r2 m2 s other 0 cur ∧ Ri.RingAt wz r3 m3 s other 0 current ∧ Ri.Made wz N bw A1 c1 A2 c2 k ats ∧ Below N w wz) (fun i _ => k - (intOf i).toNat)
      case atStart => exact ⟨0, _, rfl, by omega, rfl, RA5.out, RB5.out, RC5.out, MD5.out, B5.out⟩
      case round =>
        clear RA5 RB5 RC5 MD5 B5
        obtain ⟨j, wz, rfl, hjk, rfl, ra, rb, rc, md, bz⟩ := hrel
        have RA := Lib.hid ra
        have RB := Lib.hid rb
        have RC := Lib.hid rc
        have MD := Lib.hid md
        have BZ := Lib.hid bz
        have hNz : N ≤ wz.heap.size := by have := bz.size; have := HN.out; omega
        clear ra rb rc md bz
        by_cases hjl : j < k
        · have hjli : (j : Int) < k := by omega
          obtain ⟨⟨g, rfl⟩, ⟨g', rfl⟩⟩ := MD.out.addr hjl
          obtain ⟨cm, -⟩ := MD.out.get hjl
          obtain ⟨ha1, ha2, hxs⟩ := HAT.out j hjl
          obtain ⟨aj, haj⟩ : ∃ a, a = ats.getD j 0 := ⟨_, rfl⟩
          rw [← haj] at cm ha1 ha2
          obtain ⟨x, hx⟩ : ∃ x, x = l.getD j ByteArray.empty := ⟨_, rfl⟩
          obtain ⟨bj, hbj⟩ : ∃ x, x = bw j aj := ⟨_, rfl⟩
          have O1 : Hid (∀ (wx : World), Sm.HAt wx → Sm.KAt wx → Ri.RingAt wx r m s boot k cur → Calls Tryz.prog 14 #[.pointer (some ⟨r, 0, none⟩), .string bj, .string about] wx fun e w' => e = .returned (.tuple #[.string x, .int .i64 0]) ∧ Ri.RingAt w' r m s boot k cur ∧ Ri.Turned wx w' r m) := fun wx p q z => by
            rw [hbj, hx]; exact OPY.out wx r m boot k cur j aj p q z ⟨by omega, by omega⟩ (by omega) hxs ha2
          have O2 : Hid (∀ (wx : World), Sm.HAt wx → Sm.KAt wx → Ri.RingAt wx r2 m2 s other 0 cur → Calls Tryz.prog 14 #[.pointer (some ⟨r2, 0, none⟩), .string bj, .string about] wx fun e w' => e = .returned (.tuple #[.string x, .int .i64 0]) ∧ Ri.RingAt w' r2 m2 s other 0 cur ∧ Ri.Turned wx w' r2 m2) := fun wx p q z => by
            rw [hbj, hx]; exact OPY.out wx r2 m2 other 0 cur j aj p q z ⟨by omega, by omega⟩ (by omega) hxs ha2
          have O3 : Hid (∀ (wx : World), Sm.HAt wx → Sm.KAt wx → Ri.RingAt wx r3 m3 s other 0 current → ∃ (y : ByteArray) (f : Int), ((aj = current ∧ f = 0) ∨ (aj ≠ current ∧ f = 20)) ∧ Calls Tryz.prog 14 #[.pointer (some ⟨r3, 0, none⟩), .string bj, .string about] wx fun e w' => e = .returned (.tuple #[.string y, .int .i64 f]) ∧ Ri.RingAt w' r3 m3 s other 0 current ∧ Ri.Turned wx w' r3 m3) := fun wx p q z => by
            rw [hbj]
            by_cases h : aj = current
            · exact ⟨_, 0, .inl ⟨h, rfl⟩, OPY.out wx r3 m3 other 0 current j aj p q z ⟨by omega, by omega⟩ (by omega) hxs (by omega)⟩
            · exact ⟨_, 20, .inr ⟨h, rfl⟩, OPN.out wx r3 m3 other 0 current j aj p q z ⟨by omega, by omega⟩ (by omega) hxs (by omega)⟩
          rw [← hbj] at cm
          have HBJ := Lib.hid hbj
          have HX := Lib.hid hx
          have HAJ := Lib.hid haj
          clear hbj hx haj hxs OPY OPN
          go_wp2_with fail
          refine (O1.out _ (HH.out.low BZ.out (by omega)) (HK.out.low BZ.out hN1) RA.out).mono ?_
          rintro e w6 ⟨rfl, ra6, tu6⟩
          have RA6 := Lib.hid ra6
          have RB6 := Lib.hid (RB.out.other RA.out tu6 n12.1.symm n12.2.symm)
          have RC6 := Lib.hid (RC.out.other RA.out tu6 n13.1.symm n13.2.symm)
          have MD6 := Lib.hid (MD.out.turned RA.out tu6)
          have B6 := Lib.hid (BZ.out.trans (tu6.below hNr hNm hNz))
          have hN6 : N ≤ w6.heap.size := by have := tu6.size; omega
          obtain ⟨cm6, -⟩ := MD6.out.get hjl
          rw [← HAJ.out, ← HBJ.out] at cm6
          clear ra6 tu6 RA RB RC MD BZ cm O1
          go_wp2_with fail
          refine (O2.out _ (HH.out.low B6.out (by omega)) (HK.out.low B6.out hN1) RB6.out).mono ?_
          rintro e w7 ⟨rfl, rb7, tu7⟩
          have RB7 := Lib.hid rb7
          have RA7 := Lib.hid (RA6.out.other RB6.out tu7 n12.1 n12.2)
          have RC7 := Lib.hid (RC6.out.other RB6.out tu7 n23.1.symm n23.2.symm)
          have MD7 := Lib.hid (MD6.out.turned RB6.out tu7)
          have B7 := Lib.hid (B6.out.trans (tu7.below hN2.1 hN2.2 hN6))
          have hN7 : N ≤ w7.heap.size := by have := tu7.size; omega
          obtain ⟨cm7, -⟩ := MD7.out.get hjl
          rw [← HAJ.out, ← HBJ.out] at cm7
          clear rb7 tu7 RA6 RB6 RC6 MD6 B6 cm6 O2
          obtain ⟨y, f, hf, o3⟩ := O3.out w7 (HH.out.low B7.out (by omega)) (HK.out.low B7.out hN1) RC7.out
          have O3' := Lib.hid o3
          clear o3 O3
          go_wp2_with fail
          refine (O3'.out).mono ?_
          rintro e w8 ⟨rfl, rc8, tu8⟩
          have RC8 := Lib.hid rc8
          have RA8 := Lib.hid (RA7.out.other RC7.out tu8 n13.1 n13.2)
          have RB8 := Lib.hid (RB7.out.other RC7.out tu8 n23.1 n23.2)
          have MD8 := Lib.hid (MD7.out.turned RC7.out tu8)
          have B8 := Lib.hid (B7.out.trans (tu8.below hN3.1 hN3.2 hN7))
          obtain ⟨-, ci8⟩ := MD8.out.get hjl
          rw [← HAJ.out] at ci8
          clear rc8 tu8 RA7 RB7 RC7 MD7 B7 cm7 O3'
          obtain ⟨b, o, rfl, cl8⟩ := HIT.out _ B8.out j (by omega)
          rw [← HX.out] at cl8
          have hjll : (j : Int) < l.length := by omega
          rcases hf with ⟨hac, rfl⟩ | ⟨hac, rfl⟩
          · have q1 : (aj == current) = true := by rw [hac]; exact beq_self_eq_true _
            go_wp2_with fail
            go_roundw
            case rel => exact ⟨j + 1, _, rfl, by omega, by go_num, RA8.out, RB8.out, RC8.out, MD8.out, B8.out⟩
            case measure => simp [intOf]; omega
          · have q1 : (aj == current) = false := by rw [beq_eq_false_iff_ne]; exact hac
            go_wp2_with fail
            go_roundw
            case rel => exact ⟨j + 1, _, rfl, by omega, by go_num, RA8.out, RB8.out, RC8.out, MD8.out, B8.out⟩
            case measure => simp [intOf]; omega
        · obtain rfl : j = k := by omega
          go_wp2
          go_ret
          exact ⟨rfl, BZ.out⟩

set_option maxRecDepth 100000 in
set_option maxHeartbeats 4000000 in
theorem ringLasts_any {w : World} (hH : Sm.HAt w) (hK : Sm.KAt w) (hsz : 1 < w.heap.size) (s : ByteArray) (current : Int) (boot other : Nat) (hb : boot < 2 ^ 32)
    (A : Option Addr) (c : Nat) (l : List ByteArray) (_hll : l.length ≤ 9223372036854775807) (hsl : ∀ i, (l.getD i ByteArray.empty).size ≤ 9223372036854775807) (hit : Ri.strsAt w A l) (A' : Option Addr) (c' : Nat) (ts : List Nat) (htl : ts.length ≤ 9223372036854775807) (hts : Ri.u8sAt w A' ts) (about : ByteArray) :
    Calls Tryz.prog 7 #[.string s, .int .i64 current, .int .u32 boot, .int .u32 other, .slice A l.length c, .slice A' ts.length c', .string about] w fun e w' => e = .returned (.bool true) ∧ Below w.heap.size w w' := by
  have AW := Lib.hid (awake6_any hH hK hsz)
  by_cases h1 : s.size ≤ 300
  · have g1 : ¬ (300 : Int) < s.size := by omega
    by_cases h2 : about.size ≤ 300
    · have g2 : ¬ (300 : Int) < about.size := by omega
      by_cases h3 : l.length ≤ 40
      · have g3 : ¬ (40 : Int) < l.length := by omega
        by_cases h4 : 0 ≤ current
        · have g4 : ¬ current < 0 := by omega
          by_cases h5 : current ≤ 1048476
          · exact ringLasts_some hH hK hsz s h1 current h4 h5 boot other hb A c l h3 hsl hit A' c' ts htl hts about h2
          · have g5 : (1048476 : Int) < current := by omega
            clear hH hK hsl hit hts
            go_enter Tryz.func7, Tryz.ntmps7
            go_wp2_with fail
            refine (AW.out).mono ?_
            rintro e w1 ⟨rfl, b1⟩
            go_wp2
            go_ret
            exact ⟨rfl, b1⟩
        · have g4 : current < 0 := by omega
          clear hH hK hsl hit hts
          go_enter Tryz.func7, Tryz.ntmps7
          go_wp2_with fail
          refine (AW.out).mono ?_
          rintro e w1 ⟨rfl, b1⟩
          go_wp2
          go_ret
          exact ⟨rfl, b1⟩
      · have g3 : (40 : Int) < l.length := by omega
        clear hH hK hsl hit hts
        go_enter Tryz.func7, Tryz.ntmps7
        go_wp2_with fail
        refine (AW.out).mono ?_
        rintro e w1 ⟨rfl, b1⟩
        go_wp2
        go_ret
        exact ⟨rfl, b1⟩
    · have g2 : (300 : Int) < about.size := by omega
      clear hH hK hsl hit hts
      go_enter Tryz.func7, Tryz.ntmps7
      go_wp2_with fail
      refine (AW.out).mono ?_
      rintro e w1 ⟨rfl, b1⟩
      go_wp2
      go_ret
      exact ⟨rfl, b1⟩
  · have g1 : (300 : Int) < s.size := by omega
    clear hH hK hsl hit hts
    go_enter Tryz.func7, Tryz.ntmps7
    go_wp2_with fail
    refine (AW.out).mono ?_
    rintro e w1 ⟨rfl, b1⟩
    go_wp2
    go_ret
    exact ⟨rfl, b1⟩
end Go.Proofs.YtapogiihkbjppaaGreatDoor
