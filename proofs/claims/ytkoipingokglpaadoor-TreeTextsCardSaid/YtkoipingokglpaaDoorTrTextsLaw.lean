/-
  TreeTexts answers true for every row of acts, and turns nothing of what was there.
-/
import Derived.Test.YtkoipingokglpaaDoorTrFront
import Derived.Deep.RegionHeld3
namespace Go.Proofs.YtkoipingokglpaaDoor
open Go.RowKit
namespace Tr
open Om (Pr)
theorem wrap_pow2 {level : Nat} (h : level ≤ 4) : IntKind.i64.wrap ((2 : Int) ^ level) = (2 : Int) ^ level := by
  obtain rfl | rfl | rfl | rfl | rfl : level = 0 ∨ level = 1 ∨ level = 2 ∨ level = 3 ∨ level = 4 := by omega
  all_goals decide
theorem pow_cast2 (level : Nat) : ((2 ^ level : Nat) : Int) = (2 : Int) ^ level := by
  induction level with
  | zero => rfl
  | succ n ih => rw [Nat.pow_succ, Int.pow_succ, ← ih]; rfl
theorem pow_le2 {level : Nat} (h : level ≤ 4) : 2 ^ level ≤ 16 := by
  obtain rfl | rfl | rfl | rfl | rfl : level = 0 ∨ level = 1 ∨ level = 2 ∨ level = 3 ∨ level = 4 := by omega
  all_goals decide
theorem txl_get (l : List Pr) {k : Nat} (hk : k < 31) (h : k < (txl l).length) : (txl l)[k] = tx (tk l k) := by
  have h1 := txl_take l hk
  rw [← List.take_append_getElem h] at h1
  have h2 := List.append_cancel_left h1
  simpa using h2
theorem lv_up (l : List Pr) {level i : Nat} (h : level < 4) : lv l level i = Sm.sum (innerT (lv l (level + 1) (2 * i)) (lv l (level + 1) (2 * i + 1))) := by
  unfold lv
  have e : 4 - level = (4 - (level + 1)) + 1 := by omega
  rw [e]
  rfl
end Tr
set_option maxRecDepth 100000 in
set_option maxHeartbeats 8000000 in
theorem treeTexts_any {w : World} (G : Tr.Gd w) {A : Option Addr} {a : List Tr.Ac} (c0 : Nat) (hit : Tr.actsAt w A a) :
    Calls Tryd.prog 6 #[.slice A a.length c0] w fun e w' => e = .returned (.bool true) ∧ Below w.heap.size w w' := by
  have AW : Hid (∀ wx : World, Below w.heap.size w wx → Calls Tryd.prog 10 #[] wx fun e w' => e = .returned (.bool true) ∧ Below wx.heap.size wx w') := fun wx hb => awake15_any (G.low hb)
  obtain ⟨g, hg⟩ := Tr.fairA_or a
  have HG := Lib.hid hg
  have HIT := Lib.hid hit
  have GR1 : Hid (Calls Tryd.prog 23 #[.slice A a.length c0] w fun e w' => e = .returned (.bool g) ∧ w = w') := great15_any HIT.out g HG.out
  have NEW : Hid (∀ wx : World, Below w.heap.size w wx → Calls Tryd.prog 24 #[] wx fun e w' => ∃ r, e = .returned (.pointer (some ⟨r, 0, none⟩)) ∧ Tr.Ow w w' r [] ∧ wx.heap.size ≤ r ∧ Below wx.heap.size wx w') := fun wx hb => Tr.newC G hb
  have PL : Hid (∀ (wx : World) (r : Nat) (l : List Om.Pr) (A : Option Addr) (c : Nat) (m : List Tr.Ac), Tr.Ow w wx r l → Tr.actsAt wx A m → Tr.Off A m r → Tr.FairA m → Calls Tryd.prog 25 #[.pointer (some ⟨r, 0, none⟩), .slice A m.length c] wx fun e w' => e = .returned (.tuple #[]) ∧ Tr.Ow w w' r (Tr.play l m) ∧ wx.grownBy w' (some r)) := fun wx r l A c m h1 h2 h3 h4 => h1.playC G h2 h3 h4
  have TX : Hid (∀ (wx : World) (r : Nat) (l : List Om.Pr), Tr.Ow w wx r l → Calls Tryd.prog 21 #[.pointer (some ⟨r, 0, none⟩)] wx fun e w' => ∃ B q, e = .returned (.slice B 31 q) ∧ Om.SRow w' wx.heap.size B q (Tr.txl l) ∧ Below wx.heap.size wx w') := fun wx r l h => h.textsC G
  have SU : Hid (∀ (wx : World) (s : ByteArray), Below w.heap.size w wx → s.size ≤ 100000 → Calls Tryd.prog 28 #[.string s] wx fun e w' => e = .returned (Tr.hv (Sm.sum s.data.toList)) ∧ Below wx.heap.size wx w') := fun wx s hb hs => by
    have g := G.low hb
    exact sum_any s g.H g.K g.sz (by omega)
  have IN : Hid (∀ (wx : World) (x y : List UInt8), Below w.heap.size w wx → x.length = 32 → y.length = 32 → Calls Tryd.prog 13 #[Tr.hv x, Tr.hv y] wx fun e w' => e = .returned (Tr.hv (Sm.sum (Tr.innerT x y))) ∧ Below wx.heap.size wx w') := fun wx x y hb hx hy => by
    have g := G.low hb
    exact tInner_any g.H g.K g.sz x y hx hy
  clear hit hg G
  cases g
  case true =>
    clear HG
    go_enter Tryd.func6, Tryd.ntmps6
    go_wp2_with first
      | (go_at_call 23; refine GR1.out.mono ?_; rintro e w2 ⟨rfl, rfl⟩; clear GR1)
      | (go_at_call 10; refine (AW.out _ (Below.refl _ _)).mono ?_; rintro e w3 ⟨rfl, k3⟩)
    go_ret
    exact ⟨rfl, k3⟩
  case false =>
    have HFA : Hid (Tr.FairA a) := Classical.byContradiction fun h => by have := HG.out.2 h; cases this
    clear HG
    obtain ⟨l, hl⟩ : ∃ l, l = Tr.play [] a := ⟨_, rfl⟩
    have HL := Lib.hid hl
    have hfit : Tr.Fit l := by rw [hl]; exact Tr.play_fit Tr.Fit.nil a
    have HTK : Hid (∀ k, k < 31 → (Tr.tk l k).length ≤ 100000) := fun k hk => Tr.ndT_length l hfit.may hfit.len k hk
    clear hl hfit
    go_enter Tryd.func6, Tryd.ntmps6
    go_upto_region 3 with (go_at_call 23; refine GR1.out.mono ?_; rintro e w2 ⟨rfl, rfl⟩; clear GR1)
    go_upto_region 4 with (go_at_call 24; refine (NEW.out _ (Below.refl _ _)).mono ?_; rintro e w3 ⟨r, rfl, o3, hr3, k3⟩)
    have O3 := Lib.hid o3
    have PL3 := Lib.hid (PL.out _ _ _ A c0 a O3.out (HIT.out.below O3.out.bel) (Tr.off_of HIT.out O3.out.low) HFA.out)
    rw [← HL.out] at PL3
    clear o3 hr3 k3 NEW
    go_upto_region 5 with (go_at_call 25; refine PL3.out.mono ?_; rintro e w4 ⟨rfl, o4, g4⟩)
    have O4 := Lib.hid o4
    clear o4 g4 PL3 O3 PL
    go_upto_region 6 with (go_at_call 21; refine (TX.out _ _ _ O4.out).mono ?_; rintro e w5 ⟨B, q, rfl, r5, k5⟩)
    have O5 := Lib.hid (O4.out.step k5)
    obtain ⟨g, rfl, -, -⟩ := r5.get (j := 0) (by rw [Tr.txl_length]; decide)
    have R5 := Lib.hid (r5.base (Nat.zero_le _))
    clear r5 k5 O4 TX HIT HFA
    have ND : Hid (∀ (wx : World) (level i : Nat), Tr.Ow w wx r l → level ≤ 4 → i < 2 ^ level → Calls Tryd.prog 15 #[.pointer (some ⟨r, 0, none⟩), .int .i64 (level : Int), .int .i64 (i : Int)] wx fun e w' => e = .returned (.tuple #[.agg (Lib.byteCells (Tr.lv l level i)).toArray, .bool true]) ∧ Below wx.heap.size wx w') := fun wx level i h h4 hi => h.nodeC h4 hi
    go_wp2
    go_loopw [5, 6] (fun s5 s6 wr => ∃ u : Nat, s6 = .int .i64 ((u : Int) - 1) ∧ u ≤ 5 ∧ s5 = .int .i64 ((32 - 2 ^ u : Nat) : Int) ∧ Tr.Ow w wr r l ∧ Om.SRow wr 0 (some ⟨g, 0, none⟩) q (Tr.txl l)) (fun _ s6 _ => (intOf s6 + 1).toNat)
    case atStart => exact ⟨5, rfl, by omega, rfl, O5.out, R5.out⟩
    case round =>
      clear O5 R5
      obtain ⟨u, rfl, hu5, rfl, ho, hr⟩ := hrel
      have O := Lib.hid ho
      have R := Lib.hid hr
      clear ho hr
      rcases u with _ | level
      · have hneg : ((0 : Nat) : Int) - 1 = -1 := rfl
        rw [hneg]
        go_wp2_with (go_at_call 10; refine (AW.out _ O.out.bel).mono ?_; rintro e w9 ⟨rfl, k9⟩)
        go_ret
        exact ⟨rfl, O.out.bel.trans (k9.mono O.out.bel.size)⟩
      · have hle : ((level + 1 : Nat) : Int) - 1 = (level : Int) := by omega
        rw [hle]
        have h4 : level ≤ 4 := by omega
        have h0i : (0 : Int) ≤ (level : Int) := by omega
        have H4 := Lib.hid h4
        have hsubL : IntKind.i64.wrap ((level : Int) - 1) = (level : Int) - 1 := by simp [IntKind.wrap, IntKind.bits, IntKind.signed]; omega
        have HSL := Lib.hid hsubL
        have hpow := Tr.wrap_pow2 h4
        have hp16 := Tr.pow_le2 h4
        have HPC := Lib.hid (Tr.pow_cast2 level)
        obtain ⟨P, hP⟩ : ∃ P, P = 2 ^ level := ⟨_, rfl⟩
        have hst0 : (32 - 2 ^ (level + 1) : Nat) = 32 - 2 * P + 0 := by rw [Nat.pow_succ, ← hP]; omega
        rw [hst0]
        rw [← hP] at HPC hp16
        have HP := Lib.hid hP
        have HP16 := Lib.hid hp16
        clear hsubL hP hp16 hst0 hle
        go_wp2
        go_loopw [5, 7] (fun s5 s7 wr => ∃ i : Nat, s7 = .int .i64 i ∧ i ≤ P ∧ s5 = .int .i64 ((32 - 2 * P + i : Nat) : Int) ∧ Tr.Ow w wr r l ∧ Om.SRow wr 0 (some ⟨g, 0, none⟩) q (Tr.txl l)) (fun _ s7 _ => P - (intOf s7).toNat)
        case atStart => exact ⟨0, rfl, Nat.zero_le _, rfl, O.out, R.out⟩
        case round =>
          clear O R
          obtain ⟨i, rfl, hi, rfl, ho, hr⟩ := hrel
          have O7 := Lib.hid ho
          have R7 := Lib.hid hr
          clear ho hr
          by_cases hlt : i < P
          · have hii : (i : Int) < (2 : Int) ^ level := by rw [← HPC.out]; omega
            have hi2 : i < 2 ^ level := by rw [← HP.out]; exact hlt
            have HI2 := Lib.hid hi2
            obtain ⟨n, hn⟩ : ∃ n, n = 32 - 2 * P + i := ⟨_, rfl⟩
            have hna : n = Tr.at_ level i := by rw [hn, HP.out]; rfl
            have hn31 : n < 31 := by have := HP16.out; omega
            have hn1 : ((n + 1 : Nat) : Int) = ((32 - 2 * P + (i + 1) : Nat) : Int) := by omega
            have HN1 := Lib.hid hn1
            have HNI : Hid ((n : Int) < 31) := by show _ < _; omega
            have hx : Tr.lv l level i = Sm.sum (Tr.tk l n) := by rw [Tr.lv_at l H4.out hi2, ← hna, Tr.nk_text]
            obtain ⟨T, hT⟩ : ∃ T, T = Tr.tx (Tr.tk l n) := ⟨_, rfl⟩
            have HTX : Hid (∀ wx : World, Om.SRow wx 0 (some ⟨g, 0, none⟩) q (Tr.txl l) → g < wx.heap.size ∧ wx.cell? ⟨g, n, none⟩ = some (.string T)) := fun wx h => by
              have hlen : n < (Tr.txl l).length := by rw [Tr.txl_length]; exact hn31
              obtain ⟨g', e, h1, h2⟩ := h.get hlen
              cases e
              rw [Tr.txl_get l hn31 hlen, ← hT] at h2
              exact ⟨h1, h2⟩
            have H65 : Hid (level < 4 → T.size = 65) := fun h => by
              have h16 : 16 ≤ n := by
                have h2 := Tr.pow_le2 (level := level + 1) (by omega)
                rw [Nat.pow_succ, ← HP.out] at h2
                omega
              rw [hT, Tr.tx_size, Tr.tk_inner l h16 hn31]
              unfold Tr.innerT
              rw [List.length_cons, List.length_append, Tr.nk_length, Tr.nk_length]
            obtain ⟨x, hxe⟩ : ∃ x, x = Tr.lv l level i := ⟨_, rfl⟩
            have HLX : Hid (x.length = 32) := by show _ = _; rw [hxe]; exact Tr.lv_length _ _ _
            have HXX : Hid ((!(x == x)) = false) := by show _ = _; simp
            have SUM : Hid (∀ wx : World, Below w.heap.size w wx → Calls Tryd.prog 28 #[.string T] wx fun e w' => e = .returned (Tr.hv x) ∧ Below wx.heap.size wx w') := fun wx hb => by
              have := SU.out wx T hb (by rw [hT, Tr.tx_size]; exact HTK.out n hn31)
              rw [hT, Tr.tx_list, ← hx, ← hxe, ← hT] at this
              exact this
            have N1 := Lib.hid (ND.out _ level i O7.out H4.out hi2)
            rw [← hxe] at N1
            have INN : Hid (level < 4 → ∀ wx : World, Below w.heap.size w wx → Calls Tryd.prog 13 #[Tr.hv (Tr.lv l (level + 1) (2 * i)), Tr.hv (Tr.lv l (level + 1) (2 * i + 1))] wx fun e w' => e = .returned (Tr.hv x) ∧ Below wx.heap.size wx w') := fun h wx hb => by
              have := IN.out wx _ _ hb (Tr.lv_length l (level + 1) (2 * i)) (Tr.lv_length l (level + 1) (2 * i + 1))
              rw [← Tr.lv_up l h, ← hxe] at this
              exact this
            obtain ⟨c1, hc1⟩ : ∃ c, c = (Lib.byteCells x).toArray := ⟨_, rfl⟩
            have hzc1 : c1.size = 32 := by rw [hc1]; exact Tr.size32 HLX.out
            have HZc1 := Lib.hid hzc1
            have HOc1 : Hid (c1.all (·.oneCell') = true) := by show _ = _; rw [hc1]; exact Sm.bytes_one _
            have HCc1 := Lib.hid hc1
            rw [← hc1] at N1
            rw [← hn]
            have HLT := Lib.hid hlt
            have hsuci : IntKind.i64.wrap ((i : Int) + 1) = ((i + 1 : Nat) : Int) := by have := HLT.out; have := HP16.out; simp [IntKind.wrap, IntKind.bits, IntKind.signed]; omega
            have hsucn : IntKind.i64.wrap ((n : Int) + 1) = ((n + 1 : Nat) : Int) := by simp [IntKind.wrap, IntKind.bits, IntKind.signed]; omega
            clear hxe hT hx hn hna hn31 hn1 hi2 hlt hc1
            go_wp2_with fail
            refine N1.out.mono ?_
            rintro e w8 ⟨rfl, k8⟩
            have O8 := Lib.hid (O7.out.step k8)
            have R8 := Lib.hid (R7.out.low k8)
            have hst : ∀ (c : Array Value), c.size = 32 → (storeCells ⟨w8.heap.size, 0, none⟩ c1.toList).run Tryd.prog (w8.alloc (.cells c 23)) = .ok () (w8.alloc (.cells c1 23)) := fun c hc =>
              run_storeCells_new (P := Tryd.prog) w8 23 c c1 (Sm.infoHash HZc1.out) (by rw [HZc1.out]; exact hc) HOc1.out
            have kk : Below w8.heap.size w8 (w8.alloc (.cells c1 23)) := (Below.refl _ w8).alloc (Nat.le_refl _) _
            have H9 := Lib.hid (heap_alloc_new w8 (.cells c1 23))
            have O9 := Lib.hid (O8.out.step kk)
            have R9 := Lib.hid (R8.out.low kk)
            clear k8 kk O8 R8 
            go_upto_region 16 with (fail)
            clear hst
            generalize w8.alloc (.cells c1 23) = w9 at *
            generalize w8.heap.size = M1 at *
            rw [HCc1.out] at H9
            obtain ⟨W, hW⟩ : ∃ W, W = w9.drew := ⟨_, rfl⟩
            have HDO : Hid (Tr.Ow w W r l) := by rw [hW]; exact O9.out.step (Below.refl _ _).drew
            have HDB := Lib.hid HDO.out.bel
            have HDR : Hid (Om.SRow W 0 (some ⟨g, 0, none⟩) q (Tr.txl l)) := by rw [hW]; exact R9.out.low (Below.refl _ _).drew
            have HD1 : Hid (W.heap[M1]? = some (.cells (Lib.byteCells x).toArray 23 (0, 0))) := by rw [hW]; exact H9.out
            have HGL := Lib.hid (HTX.out _ HDR.out).1
            have HDC := Lib.hid (HTX.out _ HDR.out).2
            clear O9 R9 H9
            refine wp_region_held_drew (S := fun w' => w'.rangeAt M1 0 (Lib.byteCells x) ∧ w'.cell? ⟨g, n, none⟩ = some (.string T)) (by kernel_rfl) ⟨hW ▸ Sm.range_row HD1.out, hW ▸ HDC.out⟩ (fun hHeld => ?_)
            rw [← hW] at hHeld ⊢
            clear hW
            refine wpAnyH_take (i := 0) (oi := ⟨some 44, _, _, _, _, _⟩) (v := .bool true) rfl (by kernel_rfl) (by kernel_rfl) (by kernel_rfl) (fun _ _ _ h => h) (Or.inl ⟨by rfl, ?_⟩) (by assumption) ?_
            · intro w hSw; (try dsimp only at hSw); go_simp
            simp only [Act.put, List.setIfInBounds_toArray, List.set_cons_zero, List.set_cons_succ]
            refine wpAnyH_take (i := 1) (oi := ⟨some 45, _, _, _, _, _⟩) (v := .bool false) rfl (by kernel_rfl) (by kernel_rfl) (by kernel_rfl) (fun _ _ _ h => h) (Or.inl ⟨by rfl, ?_⟩) (by assumption) ?_
            · intro w hSw; (try dsimp only at hSw); go_simp
            simp only [Act.put, List.setIfInBounds_toArray, List.set_cons_zero, List.set_cons_succ]
            refine wpAnyH_take (i := 2) (oi := ⟨some 46, _, _, _, _, _⟩) (v := .bool false) rfl (by kernel_rfl) (by kernel_rfl) (by kernel_rfl) (fun _ _ _ h => h) (Or.inl ⟨by rfl, ?_⟩) (by assumption) ?_
            · intro w hSw; (try dsimp only at hSw); go_simp
            simp only [Act.put, List.setIfInBounds_toArray, List.set_cons_zero, List.set_cons_succ]
            refine wpAnyH_take (i := 3) (oi := ⟨some 47, _, _, _, _, _⟩) (v := .agg (Lib.byteCells x).toArray) rfl (by kernel_rfl) (by kernel_rfl) (by kernel_rfl) (fun _ _ _ h => h) (yieldsIf_load_mid (by rfl) _ _ rfl _ _ rfl (Lib.byteCells x) _ (fun w hS => hS.1) Tryd.underlying23 rfl (Sm.infoHash (Tr.size32 HLX.out))) (by assumption) ?_
            simp only [Act.put, List.setIfInBounds_toArray, List.set_cons_zero, List.set_cons_succ]
            refine wpAnyH_take (i := 4) (oi := ⟨some 48, _, _, _, _, _⟩) (v := .slice (some ⟨g, 0, none⟩) 31 q) rfl (by kernel_rfl) (by kernel_rfl) (by kernel_rfl) (fun _ _ _ h => h) (Or.inl ⟨by rfl, ?_⟩) (by assumption) ?_
            · intro w hSw; (try dsimp only at hSw); go_simp
            simp only [Act.put, List.setIfInBounds_toArray, List.set_cons_zero, List.set_cons_succ]
            refine wpAnyH_take (i := 5) (oi := ⟨some 49, _, _, _, _, _⟩) (v := .int .i64 ((n : Nat) : Int)) rfl (by kernel_rfl) (by kernel_rfl) (by kernel_rfl) (fun _ _ _ h => h) (Or.inl ⟨by rfl, ?_⟩) (by assumption) ?_
            · intro w hSw; (try dsimp only at hSw); go_simp
            simp only [Act.put, List.setIfInBounds_toArray, List.set_cons_zero, List.set_cons_succ]
            refine wpAnyH_take (i := 6) (oi := ⟨some 50, _, _, _, _, _⟩) (v := .pointer (some ⟨g, n, none⟩)) rfl (by kernel_rfl) (by kernel_rfl) (by kernel_rfl) (fun _ _ _ h => h) (Or.inl ⟨by rfl, ?_⟩) (by assumption) ?_
            · intro w hSw; (try dsimp only at hSw); have q1 := HNI.out; go_simp
            simp only [Act.put, List.setIfInBounds_toArray, List.set_cons_zero, List.set_cons_succ]
            refine wpAnyH_take (i := 7) (oi := ⟨some 51, _, _, _, _, _⟩) (v := .string T) rfl (by kernel_rfl) (by kernel_rfl) (by kernel_rfl) (fun _ _ _ h => h) (Or.inl ⟨by rfl, ?_⟩) (by assumption) ?_
            · intro w hSw; (try dsimp only at hSw); go_simp
            simp only [Act.put, List.setIfInBounds_toArray, List.set_cons_zero, List.set_cons_succ]
            refine wpAnyH_ready (rs := [8]) (by kernel_rfl) (by simp) ?_
            refine (AllReadyH.cons (o := ⟨some 52, _, _, _, _, _⟩) rfl (fun K hK => ?_) AllReadyH.nil)
            go_simp
            refine ((SUM.out _ HDB.out)).mono ?_
            rintro e w12 ⟨rfl, k12⟩
            have O12 := Lib.hid (HDO.out.step k12)
            have R12 := Lib.hid (HDR.out.low k12)
            have H12 := Lib.hid ((k12.block _ (Sm.lt_of HD1.out)).trans HD1.out)
            have C12 : Hid (w12.cell? ⟨g, n, none⟩ = some (.string T)) := (k12.cell (p := ⟨g, n, none⟩) HGL.out).trans HDC.out
            have G12 : Hid (g < w12.heap.size) := Nat.lt_of_lt_of_le HGL.out k12.size
            clear k12
            refine hK.out _ _ ⟨Sm.range_row H12.out, C12.out⟩ (fun hHeld => ?_)
            clear hK K
            refine wpAnyH_take (i := 9) (oi := ⟨some 53, _, _, _, _, _⟩) (v := .bool (!(x == x))) rfl (by kernel_rfl) (by kernel_rfl) (by kernel_rfl) (fun _ _ _ h => h) (Tr.yields_hne (by rfl) _ _ _ rfl x x HLX.out HLX.out rfl rfl) (by assumption) ?_
            simp only [Act.put, List.setIfInBounds_toArray, List.set_cons_zero, List.set_cons_succ]
            rw [HXX.out]
            refine wpAnyH_take (i := 10) (oi := ⟨some 54, _, _, _, _, _⟩) (v := .bool false) rfl (by kernel_rfl) (by kernel_rfl) (by kernel_rfl) (fun _ _ _ h => h) (Or.inl ⟨by rfl, ?_⟩) (by assumption) ?_
            · intro w hSw; (try dsimp only at hSw); go_simp
            simp only [Act.put, List.setIfInBounds_toArray, List.set_cons_zero, List.set_cons_succ]
            refine wpAnyH_done (by kernel_rfl) ?_ _
            clear HGL HDC HDB HD1 HDR HDO
            by_cases hl4 : level < 4
            · have hl4i : (level : Int) < 4 := by omega
              have HL4 := Lib.hid hl4
              have hT65 := H65.out hl4
              have HT65 : Hid (T.size = 65) := hT65
              have INN := Lib.hid (INN.out hl4)
              have hadd : IntKind.i64.wrap ((level : Int) + 1) = ((level + 1 : Nat) : Int) := by simp [IntKind.wrap, IntKind.bits, IntKind.signed]; omega
              obtain ⟨ka, hka⟩ : ∃ k, k = 2 * i := ⟨_, rfl⟩
              have hmul : IntKind.i64.wrap (2 * (i : Int)) = ((ka : Nat) : Int) := by have := HLT.out; have := HP16.out; simp [IntKind.wrap, IntKind.bits, IntKind.signed]; omega
              have hmul1 : IntKind.i64.wrap (((ka : Nat) : Int) + 1) = ((ka + 1 : Nat) : Int) := by have := HLT.out; have := HP16.out; simp [IntKind.wrap, IntKind.bits, IntKind.signed]; omega
              have hk1 : ka < 2 ^ (level + 1) := by rw [Nat.pow_succ, ← HP.out]; have := HLT.out; omega
              have hk2 : ka + 1 < 2 ^ (level + 1) := by rw [Nat.pow_succ, ← HP.out]; have := HLT.out; omega
              rw [← hka] at INN
              obtain ⟨xa, hxa⟩ : ∃ x, x = Tr.lv l (level + 1) ka := ⟨_, rfl⟩
              obtain ⟨xb, hxb⟩ : ∃ x, x = Tr.lv l (level + 1) (ka + 1) := ⟨_, rfl⟩
              have HLA : Hid (xa.length = 32) := by show _ = _; rw [hxa]; exact Tr.lv_length _ _ _
              have HLB : Hid (xb.length = 32) := by show _ = _; rw [hxb]; exact Tr.lv_length _ _ _
              rw [← hxa, ← hxb] at INN
              obtain ⟨c2, hc2⟩ : ∃ c, c = (Lib.byteCells xa).toArray := ⟨_, rfl⟩
              have hzc2 : c2.size = 32 := by rw [hc2]; exact Tr.size32 HLA.out
              have HZc2 := Lib.hid hzc2
              have HOc2 : Hid (c2.all (·.oneCell') = true) := by show _ = _; rw [hc2]; exact Sm.bytes_one _
              have HCc2 := Lib.hid hc2
              obtain ⟨c3, hc3⟩ : ∃ c, c = (Lib.byteCells xb).toArray := ⟨_, rfl⟩
              have hzc3 : c3.size = 32 := by rw [hc3]; exact Tr.size32 HLB.out
              have HZc3 := Lib.hid hzc3
              have HOc3 : Hid (c3.all (·.oneCell') = true) := by show _ = _; rw [hc3]; exact Sm.bytes_one _
              have HCc3 := Lib.hid hc3
              have N2 : Hid (∀ wx, Tr.Ow w wx r l → Calls Tryd.prog 15 #[.pointer (some ⟨r, 0, none⟩), .int .i64 ((level + 1 : Nat) : Int), .int .i64 (ka : Int)] wx fun e w' => e = .returned (.tuple #[.agg c2, .bool true]) ∧ Below wx.heap.size wx w') := fun wx h => by rw [hc2, hxa]; exact ND.out wx (level + 1) ka h (by have := HL4.out; omega) hk1
              have N3 : Hid (∀ wx, Tr.Ow w wx r l → Calls Tryd.prog 15 #[.pointer (some ⟨r, 0, none⟩), .int .i64 ((level + 1 : Nat) : Int), .int .i64 ((ka + 1 : Nat) : Int)] wx fun e w' => e = .returned (.tuple #[.agg c3, .bool true]) ∧ Below wx.heap.size wx w') := fun wx h => by rw [hc3, hxb]; exact ND.out wx (level + 1) (ka + 1) h (by have := HL4.out; omega) hk2
              clear hk1 hk2 hxa hxb hc2 hc3 hl4 hka hT65
              go_upto_region 19 with (fail)
              go_wp2_with fail
              refine (N2.out _ O12.out).mono ?_
              rintro e w13 ⟨rfl, k13⟩
              have O13 := Lib.hid (O12.out.step k13)
              have R13 := Lib.hid (R12.out.low k13)
              have H13 := Lib.hid ((k13.block _ (Sm.lt_of H12.out)).trans H12.out)
              have hst : ∀ (c : Array Value), c.size = 32 → (storeCells ⟨w13.heap.size, 0, none⟩ c2.toList).run Tryd.prog (w13.alloc (.cells c 23)) = .ok () (w13.alloc (.cells c2 23)) := fun c hc =>
                run_storeCells_new (P := Tryd.prog) w13 23 c c2 (Sm.infoHash HZc2.out) (by rw [HZc2.out]; exact hc) HOc2.out
              have kk : Below w13.heap.size w13 (w13.alloc (.cells c2 23)) := (Below.refl _ w13).alloc (Nat.le_refl _) _
              have I14 := Lib.hid (heap_alloc_new w13 (.cells c2 23))
              have O14 := Lib.hid (O13.out.step kk)
              have R14 := Lib.hid (R13.out.low kk)
              have H14 := Lib.hid ((kk.block _ (Sm.lt_of H13.out)).trans H13.out)
              clear k13 kk O13 R13 H13
              go_upto_region 20 with (fail)
              clear hst
              generalize w13.alloc (.cells c2 23) = w14 at *
              generalize w13.heap.size = M2 at *
              go_wp2_with fail
              refine (N3.out _ O14.out).mono ?_
              rintro e w15 ⟨rfl, k15⟩
              have O15 := Lib.hid (O14.out.step k15)
              have R15 := Lib.hid (R14.out.low k15)
              have H15 := Lib.hid ((k15.block _ (Sm.lt_of H14.out)).trans H14.out)
              have I15 := Lib.hid ((k15.block _ (Sm.lt_of I14.out)).trans I14.out)
              have hst : ∀ (c : Array Value), c.size = 32 → (storeCells ⟨w15.heap.size, 0, none⟩ c3.toList).run Tryd.prog (w15.alloc (.cells c 23)) = .ok () (w15.alloc (.cells c3 23)) := fun c hc =>
                run_storeCells_new (P := Tryd.prog) w15 23 c c3 (Sm.infoHash HZc3.out) (by rw [HZc3.out]; exact hc) HOc3.out
              have kk : Below w15.heap.size w15 (w15.alloc (.cells c3 23)) := (Below.refl _ w15).alloc (Nat.le_refl _) _
              have J16 := Lib.hid (heap_alloc_new w15 (.cells c3 23))
              have O16 := Lib.hid (O15.out.step kk)
              have R16 := Lib.hid (R15.out.low kk)
              have H16 := Lib.hid ((kk.block _ (Sm.lt_of H15.out)).trans H15.out)
              have I16 := Lib.hid ((kk.block _ (Sm.lt_of I15.out)).trans I15.out)
              clear k15 kk O15 R15 H15 I15
              go_upto_region 21 with (fail)
              clear hst
              generalize w15.alloc (.cells c3 23) = w16 at *
              generalize w15.heap.size = M3 at *
              rw [HCc2.out] at I16
              rw [HCc3.out] at J16
              obtain ⟨W, hW⟩ : ∃ W, W = w16.drew := ⟨_, rfl⟩
              have HDO : Hid (Tr.Ow w W r l) := by rw [hW]; exact O16.out.step (Below.refl _ _).drew
              have HDB := Lib.hid HDO.out.bel
              have HDR : Hid (Om.SRow W 0 (some ⟨g, 0, none⟩) q (Tr.txl l)) := by rw [hW]; exact R16.out.low (Below.refl _ _).drew
              have HD1 : Hid (W.heap[M1]? = some (.cells (Lib.byteCells x).toArray 23 (0, 0))) := by rw [hW]; exact H16.out
              have HD2 : Hid (W.heap[M2]? = some (.cells (Lib.byteCells xa).toArray 23 (0, 0))) := by rw [hW]; exact I16.out
              have HD3 : Hid (W.heap[M3]? = some (.cells (Lib.byteCells xb).toArray 23 (0, 0))) := by rw [hW]; exact J16.out
              have HGL := Lib.hid (HTX.out _ HDR.out).1
              have HDC := Lib.hid (HTX.out _ HDR.out).2
              clear O16 R16 H16 I16 J16 hadd hmul hmul1
              refine wp_region_held_drew (S := fun w' => (w'.rangeAt M2 0 (Lib.byteCells xa) ∧ w'.rangeAt M3 0 (Lib.byteCells xb)) ∧ w'.rangeAt M1 0 (Lib.byteCells x) ∧ w'.cell? ⟨g, n, none⟩ = some (.string T)) (by kernel_rfl) ⟨⟨hW ▸ Sm.range_row HD2.out, hW ▸ Sm.range_row HD3.out⟩, hW ▸ Sm.range_row HD1.out, hW ▸ HDC.out⟩ (fun hHeld => ?_)
              rw [← hW] at hHeld ⊢
              clear hW
              refine wpAnyH_take (i := 0) (oi := ⟨some 76, _, _, _, _, _⟩) (v := .agg (Lib.byteCells xa).toArray) rfl (by kernel_rfl) (by kernel_rfl) (by kernel_rfl) (fun _ _ _ h => h) (yieldsIf_load_mid (by rfl) _ _ rfl _ _ rfl (Lib.byteCells xa) _ (fun w hS => hS.1.1) Tryd.underlying23 rfl (Sm.infoHash (Tr.size32 HLA.out))) (by assumption) ?_
              simp only [Act.put, List.setIfInBounds_toArray, List.set_cons_zero, List.set_cons_succ]
              refine wpAnyH_take (i := 1) (oi := ⟨some 77, _, _, _, _, _⟩) (v := .agg (Lib.byteCells xb).toArray) rfl (by kernel_rfl) (by kernel_rfl) (by kernel_rfl) (fun _ _ _ h => h) (yieldsIf_load_mid (by rfl) _ _ rfl _ _ rfl (Lib.byteCells xb) _ (fun w hS => hS.1.2) Tryd.underlying23 rfl (Sm.infoHash (Tr.size32 HLB.out))) (by assumption) ?_
              simp only [Act.put, List.setIfInBounds_toArray, List.set_cons_zero, List.set_cons_succ]
              refine wpAnyH_take (i := 3) (oi := ⟨some 79, _, _, _, _, _⟩) (v := .agg (Lib.byteCells x).toArray) rfl (by kernel_rfl) (by kernel_rfl) (by kernel_rfl) (fun _ _ _ h => h) (yieldsIf_load_mid (by rfl) _ _ rfl _ _ rfl (Lib.byteCells x) _ (fun w hS => hS.2.1) Tryd.underlying23 rfl (Sm.infoHash (Tr.size32 HLX.out))) (by assumption) ?_
              simp only [Act.put, List.setIfInBounds_toArray, List.set_cons_zero, List.set_cons_succ]
              refine wpAnyH_ready (rs := [2]) (by kernel_rfl) (by simp) ?_
              refine (AllReadyH.cons (o := ⟨some 78, _, _, _, _, _⟩) rfl (fun K hK => ?_) AllReadyH.nil)
              go_simp
              refine ((INN.out _ HDB.out)).mono ?_
              rintro e w18 ⟨rfl, k18⟩
              have O18 := Lib.hid (HDO.out.step k18)
              have R18 := Lib.hid (HDR.out.low k18)
              have H181 := Lib.hid ((k18.block _ (Sm.lt_of HD1.out)).trans HD1.out)
              have H182 := Lib.hid ((k18.block _ (Sm.lt_of HD2.out)).trans HD2.out)
              have H183 := Lib.hid ((k18.block _ (Sm.lt_of HD3.out)).trans HD3.out)
              have C18 : Hid (w18.cell? ⟨g, n, none⟩ = some (.string T)) := (k18.cell (p := ⟨g, n, none⟩) HGL.out).trans HDC.out
              clear k18
              refine hK.out _ _ ⟨⟨Sm.range_row H182.out, Sm.range_row H183.out⟩, Sm.range_row H181.out, C18.out⟩ (fun hHeld => ?_)
              clear hK K
              refine wpAnyH_take (i := 4) (oi := ⟨some 80, _, _, _, _, _⟩) (v := .bool (!(x == x))) rfl (by kernel_rfl) (by kernel_rfl) (by kernel_rfl) (fun _ _ _ h => h) (Tr.yields_hne (by rfl) _ _ _ rfl x x HLX.out HLX.out rfl rfl) (by assumption) ?_
              simp only [Act.put, List.setIfInBounds_toArray, List.set_cons_zero, List.set_cons_succ]
              rw [HXX.out]
              refine wpAnyH_take (i := 5) (oi := ⟨some 81, _, _, _, _, _⟩) (v := .bool false) rfl (by kernel_rfl) (by kernel_rfl) (by kernel_rfl) (fun _ _ _ h => h) (Or.inl ⟨by rfl, ?_⟩) (by assumption) ?_
              · intro w hSw; (try dsimp only at hSw); go_simp
              simp only [Act.put, List.setIfInBounds_toArray, List.set_cons_zero, List.set_cons_succ]
              refine wpAnyH_take (i := 6) (oi := ⟨some 82, _, _, _, _, _⟩) (v := .slice (some ⟨g, 0, none⟩) 31 q) rfl (by kernel_rfl) (by kernel_rfl) (by kernel_rfl) (fun _ _ _ h => h) (Or.inl ⟨by rfl, ?_⟩) (by assumption) ?_
              · intro w hSw; (try dsimp only at hSw); go_simp
              simp only [Act.put, List.setIfInBounds_toArray, List.set_cons_zero, List.set_cons_succ]
              refine wpAnyH_take (i := 7) (oi := ⟨some 83, _, _, _, _, _⟩) (v := .int .i64 ((n : Nat) : Int)) rfl (by kernel_rfl) (by kernel_rfl) (by kernel_rfl) (fun _ _ _ h => h) (Or.inl ⟨by rfl, ?_⟩) (by assumption) ?_
              · intro w hSw; (try dsimp only at hSw); go_simp
              simp only [Act.put, List.setIfInBounds_toArray, List.set_cons_zero, List.set_cons_succ]
              refine wpAnyH_take (i := 8) (oi := ⟨some 84, _, _, _, _, _⟩) (v := .pointer (some ⟨g, n, none⟩)) rfl (by kernel_rfl) (by kernel_rfl) (by kernel_rfl) (fun _ _ _ h => h) (Or.inl ⟨by rfl, ?_⟩) (by assumption) ?_
              · intro w hSw; (try dsimp only at hSw); have q1 := HNI.out; go_simp
              simp only [Act.put, List.setIfInBounds_toArray, List.set_cons_zero, List.set_cons_succ]
              refine wpAnyH_take (i := 9) (oi := ⟨some 85, _, _, _, _, _⟩) (v := .string T) rfl (by kernel_rfl) (by kernel_rfl) (by kernel_rfl) (fun _ _ _ h => h) (Or.inl ⟨by rfl, ?_⟩) (by assumption) ?_
              · intro w hSw; (try dsimp only at hSw); go_simp
              simp only [Act.put, List.setIfInBounds_toArray, List.set_cons_zero, List.set_cons_succ]
              refine wpAnyH_take (i := 10) (oi := ⟨some 86, _, _, _, _, _⟩) (v := .int .i64 65) rfl (by kernel_rfl) (by kernel_rfl) (by kernel_rfl) (fun _ _ _ h => h) (Or.inl ⟨by rfl, ?_⟩) (by assumption) ?_
              · intro w hSw; (try dsimp only at hSw); have q2 := HT65.out; go_simp
              simp only [Act.put, List.setIfInBounds_toArray, List.set_cons_zero, List.set_cons_succ]
              refine wpAnyH_take (i := 11) (oi := ⟨some 87, _, _, _, _, _⟩) (v := .bool false) rfl (by kernel_rfl) (by kernel_rfl) (by kernel_rfl) (fun _ _ _ h => h) (Or.inl ⟨by rfl, ?_⟩) (by assumption) ?_
              · intro w hSw; (try dsimp only at hSw); go_simp
              simp only [Act.put, List.setIfInBounds_toArray, List.set_cons_zero, List.set_cons_succ]
              refine wpAnyH_take (i := 12) (oi := ⟨some 88, _, _, _, _, _⟩) (v := .bool false) rfl (by kernel_rfl) (by kernel_rfl) (by kernel_rfl) (fun _ _ _ h => h) (Or.inl ⟨by rfl, ?_⟩) (by assumption) ?_
              · intro w hSw; (try dsimp only at hSw); go_simp
              simp only [Act.put, List.setIfInBounds_toArray, List.set_cons_zero, List.set_cons_succ]
              refine wpAnyH_done (by kernel_rfl) ?_ _
              go_wp2
              go_roundw
              case rel => exact ⟨i + 1, rfl, HLT.out, congrArg (Value.int .i64) (by have := HN1.out; omega), O18.out, R18.out⟩
              case measure => simp only [intOf]; have := HLT.out; omega
            · have hl4i : ¬ (level : Int) < 4 := by omega
              go_wp2
              go_roundw
              case rel => exact ⟨i + 1, rfl, HLT.out, congrArg (Value.int .i64) (by have := HN1.out; omega), O12.out, R12.out⟩
              case measure => simp only [intOf]; have := HLT.out; omega
          · have hii : ¬ (i : Int) < (2 : Int) ^ level := by rw [← HPC.out]; omega
            have hsubL := HSL.out
            go_wp2
            go_roundw
            case rel => exact ⟨level, rfl, by have := H4.out; omega, by rw [← HP.out]; congr 1; have := HP16.out; omega, O7.out, R7.out⟩
            case measure => simp only [intOf]; have := H4.out; omega
end Go.Proofs.YtkoipingokglpaaDoor
