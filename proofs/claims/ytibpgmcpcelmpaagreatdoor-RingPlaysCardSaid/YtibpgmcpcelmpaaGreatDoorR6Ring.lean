/-
  The document's own ring: Rotate, Wrap, Open.
-/
import Derived.Test.YtibpgmcpcelmpaaGreatDoorR6Key
import Derived.Test.YtibpgmcpcelmpaaGreatDoorR5Close
import Derived.Test.YtibpgmcpcelmpaaGreatDoorR5Open
import Derived.Test.YtibpgmcpcelmpaaGreatDoorR5Bytes
import Derived.Test.YtibpgmcpcelmpaaGreatDoorR5Read
import Derived.Test.YtibpgmcpcelmpaaGreatDoorRiOpen
import Derived.Laws.ResultCell
import Derived.Deep.CutRange
namespace Go.Proofs.YtibpgmcpcelmpaaGreatDoor
open Go.RowKit Pk
namespace Ri
theorem results_ctt {fn : Func} {p u x : Tmp} {ty : TypeId} (h : fn.results = #[.cell p ty, .tmp u, .tmp x]) (tmps : Array Value) (P : Program) (w : World) :
    (results fn tmps).run P w =
      ((asAddr (tmps.getD p undef)).run P w).andThen fun a w₁ => ((loadVar ty a).run P w₁).andThen fun v w₂ => .ok (.tuple #[v, tmps.getD u undef, tmps.getD x undef]) w₂ := by
  simp only [results, h]
  simp [Sem.run_bind, Result.andThen]
end Ri
set_option maxRecDepth 100000 in
set_option maxHeartbeats 1000000 in
theorem r6Rotate_full (w : World) (M : ByteArray) (boot n : Nat) :
    Calls Tryz.prog 11 #[.agg #[.string M, .int .i64 1048576, .int .u32 (boot : Int), .int .u64 (n : Int)]] w fun e w' => e = .returned (.tuple #[.agg #[.string M, .int .i64 1048576, .int .u32 (boot : Int), .int .u64 (n : Int)], .int .i64 6]) ∧ Below w.heap.size w w' := by
  go_enter Tryz.func11, Tryz.ntmps11
  go_wp2
  have b2 : Below w.heap.size w ((w.alloc (.cells #[.string M, .int .i64 1048576, .int .u32 (boot : Int), .int .u64 (n : Int)] 32)).alloc (.cells #[.string M, .int .i64 1048576, .int .u32 (boot : Int), .int .u64 (n : Int)] 32)) := ((Below.refl _ w).alloc (Nat.le_refl _) _).alloc (by simp) _
  refine bodyPost_ret (v := .tuple #[.agg #[.string M, .int .i64 1048576, .int .u32 (boot : Int), .int .u64 (n : Int)], .int .i64 6]) ((results_cell_tmp rfl _ _ _).trans (by go_simp)) rfl ⟨rfl, b2⟩
set_option maxRecDepth 100000 in
set_option maxHeartbeats 1000000 in
theorem r6Rotate_any (w : World) (M : ByteArray) (boot n : Nat) (cur : Int) (hc : 0 ≤ cur ∧ cur < 1048576) :
    Calls Tryz.prog 11 #[.agg #[.string M, .int .i64 cur, .int .u32 (boot : Int), .int .u64 (n : Int)]] w fun e w' => e = .returned (.tuple #[.agg #[.string M, .int .i64 (cur + 1), .int .u32 (boot : Int), .int .u64 (n : Int)], .int .i64 0]) ∧ Below w.heap.size w w' := by
  have h1 : (cur == 1048576) = false := beq_eq_false_iff_ne.2 (by omega)
  have h2 : IntKind.i64.wrap (cur + 1) = cur + 1 := IntWalk.i64_in _ (by omega)
  go_enter Tryz.func11, Tryz.ntmps11
  go_wp2
  have b2 : Below w.heap.size w ((w.alloc (.cells #[.string M, .int .i64 (cur + 1), .int .u32 (boot : Int), .int .u64 (n : Int)] 32)).alloc (.cells #[.string M, .int .i64 (cur + 1), .int .u32 (boot : Int), .int .u64 (n : Int)] 32)) := ((Below.refl _ w).alloc (Nat.le_refl _) _).alloc (by simp) _
  refine bodyPost_ret (v := .tuple #[.agg #[.string M, .int .i64 (cur + 1), .int .u32 (boot : Int), .int .u64 (n : Int)], .int .i64 0]) ((results_cell_tmp rfl _ _ _).trans (by go_simp)) rfl ⟨rfl, ?_⟩
  exact b2
namespace Ri
theorem set4 {w : World} {N : Nat} {cs : Array Value} {t : TypeId} {q : Nat × Nat} (h : w.heap[N]? = some (.cells cs t q)) (hs : cs.size = 4) (a b c d : Value) :
    ((((w.setCell ⟨N, 0, none⟩ a).setCell ⟨N, 1, none⟩ b).setCell ⟨N, 2, none⟩ c).setCell ⟨N, 3, none⟩ d).heap[N]? = some (.cells #[a, b, c, d] t q) := by
  obtain ⟨x0, x1, x2, x3, rfl⟩ : ∃ x0 x1 x2 x3, cs = #[x0, x1, x2, x3] := by
    rcases cs with ⟨l⟩
    match l, hs with
    | [x0, x1, x2, x3], _ => exact ⟨x0, x1, x2, x3, rfl⟩
  exact Sm.heap_set (Sm.heap_set (Sm.heap_set (Sm.heap_set h 0 a) 1 b) 2 c) 3 d
theorem set4_below {B : Nat} {w0 w : World} (h : Below B w0 w) {N : Nat} (hN : B ≤ N) (a b c d : Value) : Below B w0 ((((w.setCell ⟨N, 0, none⟩ a).setCell ⟨N, 1, none⟩ b).setCell ⟨N, 2, none⟩ c).setCell ⟨N, 3, none⟩ d) :=
  (((h.setCell (p := ⟨N, 0, none⟩) hN a).setCell (p := ⟨N, 1, none⟩) hN b).setCell (p := ⟨N, 2, none⟩) hN c).setCell (p := ⟨N, 3, none⟩) hN d
end Ri
set_option maxRecDepth 100000 in
set_option maxHeartbeats 4000000 in
theorem r6Wrap_ok (w : World) (M : ByteArray) (hM : M.size ≤ 35184372088832) (cur : Int) (hc : 0 ≤ cur ∧ cur ≤ 1048576) (boot n : Nat) (hb : boot < 2 ^ 32) (hn : n + 1 < 2 ^ 64) (about text : ByteArray) (ha : about.size ≤ 20000) (ht : text.size ≤ 8192) :
    Calls Tryz.prog 7 #[.agg #[.string M, .int .i64 cur, .int .u32 (boot : Int), .int .u64 (n : Int)], .string about, .string text] w fun e w' => e = .returned (.tuple #[.agg #[.string M, .int .i64 cur, .int .u32 (boot : Int), .int .u64 ((n + 1 : Nat) : Int)], .string ⟨(Ri.wrap M.data.toList cur boot n about.data.toList text.data.toList).1.toArray⟩, .int .i64 0]) ∧ Below w.heap.size w w' := by
  have hz1 := (zero_of_info Se.zeroEnv).1
  have hzs : Se.zero.cells.toArray.size = 36 := Se.cells_length _ (by rfl)
  obtain ⟨z0, hz0⟩ : ∃ z, z = Se.zero.cells.toArray := ⟨_, rfl⟩
  rw [← hz0] at hz1 hzs
  have htl : text.data.toList.length = text.size := by rw [Array.length_toList]; rfl
  obtain ⟨kk, hkk⟩ : ∃ k, k = Ri.key M.data.toList cur := ⟨_, rfl⟩
  have hkl : kk.length = 32 := by rw [hkk]; exact Ri.key_length _ _
  obtain ⟨ck, hck⟩ : ∃ c, c = Lib.byteCells kk := ⟨_, rfl⟩
  obtain ⟨en, hen⟩ : ∃ e, e = Se.sealed kk cur boot n about.data.toList text.data.toList := ⟨_, rfl⟩
  have hok := Se.sealed_ok (k := kk) (about := about.data.toList) hc hb (show n < 2 ^ 64 by omega) (show text.data.toList.length ≤ 8192 by omega)
  rw [← hen] at hok
  obtain ⟨ce, hce⟩ : ∃ c, c = en.cells := ⟨_, rfl⟩
  have hcel : ce.length = 36 := by rw [hce]; exact Se.cells_length _ hok.1.tag
  have hceo : ce.toArray.all (·.oneCell') = true := by rw [hce]; exact Se.cells_one _
  have KEYC : Hid (∀ wx : World, Calls Tryz.prog 17 #[.string M, .int .i64 cur] wx fun e w' => e = .returned (.agg ck.toArray) ∧ Below wx.heap.size wx w') := fun wx => by
    rw [hck, hkk]; exact r6Key_any wx M hM cur
  have CLOSE : Hid (∀ wx : World, Calls Tryz.prog 16 #[.agg ck.toArray, .int .i64 cur, .int .u32 (boot : Int), .int .u64 (n : Int), .string about, .string text] wx fun e w' => e = .returned (.tuple #[.agg ce.toArray, .int .i64 0]) ∧ Below wx.heap.size wx w') := fun wx => by
    have q := r5Close_any wx kk hkl cur (by omega) boot n hb (by omega) about text ha (by omega)
    unfold Se.close at q
    rw [if_pos hc, if_pos (by omega), ← hen] at q
    rw [hck, hce]
    exact q
  have hsp : Se.spelled en = (Se.bytes en, 0) := by unfold Se.spelled; rw [if_pos hok.2]
  have hwr : (Ri.wrap M.data.toList cur boot n about.data.toList text.data.toList).1 = Se.bytes en := by rw [Ri.wrap_ok (by omega), hen, hkk]
  obtain ⟨bx, hbx⟩ : ∃ b : ByteArray, b = ⟨(Se.bytes en).toArray⟩ := ⟨_, rfl⟩
  have BY : Hid (∀ wx : World, Calls Tryz.prog 18 #[.agg ce.toArray] wx fun e w' => e = .returned (.tuple #[.string bx, .int .i64 0]) ∧ Below wx.heap.size wx w') := fun wx => by
    have q := r5Bytes_any wx en hok.1
    rw [hsp] at q
    rw [hce, hbx]
    exact q
  rw [hwr, ← hbx]
  obtain ⟨n1, hn1⟩ : ∃ k : Int, k = ((n + 1 : Nat) : Int) := ⟨_, rfl⟩
  rw [← hn1]
  have hu : IntKind.u64.wrap ((n : Int) + 1) = n1 := by rw [IntKind.wrap_u64]; omega
  clear hsp hwr hbx hn1
  clear hz0 htl hkk hck hen hok hce hkl
  go_enter Tryz.func7, Tryz.ntmps7
  go_upto_region 1 with (fail)
  have b2 : Below w.heap.size w ((w.alloc (.cells #[.string M, .int .i64 cur, .int .u32 (boot : Int), .int .u64 (n : Int)] 32)).alloc (.cells #[.string ⟨#[]⟩, .int .i64 0, .int .u32 0, .int .u64 0] 32)) := ((Below.refl _ w).alloc (Nat.le_refl _) _).alloc (by simp) _
  have g2 : ((w.alloc (.cells #[.string M, .int .i64 cur, .int .u32 (boot : Int), .int .u64 (n : Int)] 32)).alloc (.cells #[.string ⟨#[]⟩, .int .i64 0, .int .u32 0, .int .u64 0] 32)).heap[w.heap.size]? = some (.cells #[.string M, .int .i64 cur, .int .u32 (boot : Int), .int .u64 (n : Int)] 32 (0, 0)) := by rw [Below.heap_alloc _ _ _ (by simp)]; exact heap_alloc_new w _
  have r2 : ((w.alloc (.cells #[.string M, .int .i64 cur, .int .u32 (boot : Int), .int .u64 (n : Int)] 32)).alloc (.cells #[.string ⟨#[]⟩, .int .i64 0, .int .u32 0, .int .u64 0] 32)).heap[w.heap.size + 1]? = some (.cells #[.string ⟨#[]⟩, .int .i64 0, .int .u32 0, .int .u64 0] 32 (0, 0)) := by
    have q := heap_alloc_new (w.alloc (.cells #[.string M, .int .i64 cur, .int .u32 (boot : Int), .int .u64 (n : Int)] 32)) (.cells #[.string ⟨#[]⟩, .int .i64 0, .int .u32 0, .int .u64 0] 32)
    rw [World.size_alloc] at q
    exact q
  have z2 : w.heap.size + 2 ≤ ((w.alloc (.cells #[.string M, .int .i64 cur, .int .u32 (boot : Int), .int .u64 (n : Int)] 32)).alloc (.cells #[.string ⟨#[]⟩, .int .i64 0, .int .u32 0, .int .u64 0] 32)).heap.size := by simp
  obtain ⟨N, hN⟩ : ∃ N, N = w.heap.size := ⟨_, rfl⟩
  rw [← hN] at b2 g2 r2 z2 ⊢
  have HN := Lib.hid hN
  have B2 := Lib.hid b2
  have G2 := Lib.hid g2
  have R2 := Lib.hid r2
  have Z2 := Lib.hid z2
  clear hN b2 g2 r2 z2
  generalize ((w.alloc (.cells #[.string M, .int .i64 cur, .int .u32 (boot : Int), .int .u64 (n : Int)] 32)).alloc (.cells #[.string ⟨#[]⟩, .int .i64 0, .int .u32 0, .int .u64 0] 32)) = w2 at *
  go_cut [9, 10] from 13 (fun s9 s10 wx => ∃ E : Nat, s9 = .pointer (some ⟨E, 0, none⟩) ∧ s10 = .int .i64 0 ∧ (wx.heap[E]? = some (.cells ce.toArray 66 (0, 0)) ∧ wx.heap[N]? = some (.cells #[.string M, .int .i64 cur, .int .u32 (boot : Int), .int .u64 (n : Int)] 32 (0, 0)) ∧ wx.heap[N + 1]? = some (.cells #[.string ⟨#[]⟩, .int .i64 0, .int .u32 0, .int .u64 0] 32 (0, 0)) ∧ N + 2 ≤ E ∧ Below N w wx))
  case first =>
    refine wp_region_held_drew (S := (fun w' => w'.heap[N]? = some (.cells #[.string M, .int .i64 cur, .int .u32 (boot : Int), .int .u64 (n : Int)] 32 (0, 0)))) (by kernel_rfl) G2.out (fun hHeld => ?_)
    have Ba0 : Hid (Below N w w2.drew) := B2.out.drew
    have Ga0 : Hid (w2.drew.heap[N]? = some (.cells #[.string M, .int .i64 cur, .int .u32 (boot : Int), .int .u64 (n : Int)] 32 (0, 0))) := G2.out
    have Ra0 : Hid (w2.drew.heap[N + 1]? = some (.cells #[.string ⟨#[]⟩, .int .i64 0, .int .u32 0, .int .u64 0] 32 (0, 0))) := R2.out
    have Za0 : Hid (N + 2 ≤ w2.drew.heap.size) := Z2.out
    generalize w2.drew = a0 at *
    refine wpAnyH_take (i := 0) (oi := ⟨some 14, _, _, _, _, _⟩) (v := .pointer (some ⟨N, 0, none⟩)) rfl (by kernel_rfl) (by kernel_rfl) (by kernel_rfl) (fun _ _ _ h => h) (Or.inl ⟨by rfl, ?_⟩) (by assumption) ?_
    · intro w hSw; (try dsimp only at hSw); go_simp
    simp only [Act.put, List.setIfInBounds_toArray, List.set_cons_zero, List.set_cons_succ]
    refine wpAnyH_take (i := 1) (oi := ⟨some 15, _, _, _, _, _⟩) (v := .string M) rfl (by kernel_rfl) (by kernel_rfl) (by kernel_rfl) (fun _ _ _ h => h) (Or.inl ⟨by rfl, ?_⟩) (by assumption) ?_
    · intro w hSw; (try dsimp only at hSw); have c := Sm.cells_of hSw 0 _ rfl; go_simp
    simp only [Act.put, List.setIfInBounds_toArray, List.set_cons_zero, List.set_cons_succ]
    refine wpAnyH_take (i := 2) (oi := ⟨some 16, _, _, _, _, _⟩) (v := .pointer (some ⟨N, 1, none⟩)) rfl (by kernel_rfl) (by kernel_rfl) (by kernel_rfl) (fun _ _ _ h => h) (Or.inl ⟨by rfl, ?_⟩) (by assumption) ?_
    · intro w hSw; (try dsimp only at hSw); go_simp
    simp only [Act.put, List.setIfInBounds_toArray, List.set_cons_zero, List.set_cons_succ]
    refine wpAnyH_take (i := 3) (oi := ⟨some 17, _, _, _, _, _⟩) (v := .int .i64 cur) rfl (by kernel_rfl) (by kernel_rfl) (by kernel_rfl) (fun _ _ _ h => h) (Or.inl ⟨by rfl, ?_⟩) (by assumption) ?_
    · intro w hSw; (try dsimp only at hSw); have c := Sm.cells_of hSw 1 _ rfl; go_simp
    simp only [Act.put, List.setIfInBounds_toArray, List.set_cons_zero, List.set_cons_succ]
    refine wpAnyH_take (i := 5) (oi := ⟨some 19, _, _, _, _, _⟩) (v := .pointer (some ⟨N, 1, none⟩)) rfl (by kernel_rfl) (by kernel_rfl) (by kernel_rfl) (fun _ _ _ h => h) (Or.inl ⟨by rfl, ?_⟩) (by assumption) ?_
    · intro w hSw; (try dsimp only at hSw); go_simp
    simp only [Act.put, List.setIfInBounds_toArray, List.set_cons_zero, List.set_cons_succ]
    refine wpAnyH_take (i := 6) (oi := ⟨some 20, _, _, _, _, _⟩) (v := .int .i64 cur) rfl (by kernel_rfl) (by kernel_rfl) (by kernel_rfl) (fun _ _ _ h => h) (Or.inl ⟨by rfl, ?_⟩) (by assumption) ?_
    · intro w hSw; (try dsimp only at hSw); have c := Sm.cells_of hSw 1 _ rfl; go_simp
    simp only [Act.put, List.setIfInBounds_toArray, List.set_cons_zero, List.set_cons_succ]
    refine wpAnyH_take (i := 7) (oi := ⟨some 21, _, _, _, _, _⟩) (v := .pointer (some ⟨N, 2, none⟩)) rfl (by kernel_rfl) (by kernel_rfl) (by kernel_rfl) (fun _ _ _ h => h) (Or.inl ⟨by rfl, ?_⟩) (by assumption) ?_
    · intro w hSw; (try dsimp only at hSw); go_simp
    simp only [Act.put, List.setIfInBounds_toArray, List.set_cons_zero, List.set_cons_succ]
    refine wpAnyH_take (i := 8) (oi := ⟨some 22, _, _, _, _, _⟩) (v := .int .u32 (boot : Int)) rfl (by kernel_rfl) (by kernel_rfl) (by kernel_rfl) (fun _ _ _ h => h) (Or.inl ⟨by rfl, ?_⟩) (by assumption) ?_
    · intro w hSw; (try dsimp only at hSw); have c := Sm.cells_of hSw 2 _ rfl; go_simp
    simp only [Act.put, List.setIfInBounds_toArray, List.set_cons_zero, List.set_cons_succ]
    refine wpAnyH_take (i := 9) (oi := ⟨some 23, _, _, _, _, _⟩) (v := .pointer (some ⟨N, 3, none⟩)) rfl (by kernel_rfl) (by kernel_rfl) (by kernel_rfl) (fun _ _ _ h => h) (Or.inl ⟨by rfl, ?_⟩) (by assumption) ?_
    · intro w hSw; (try dsimp only at hSw); go_simp
    simp only [Act.put, List.setIfInBounds_toArray, List.set_cons_zero, List.set_cons_succ]
    refine wpAnyH_take (i := 10) (oi := ⟨some 24, _, _, _, _, _⟩) (v := .int .u64 (n : Int)) rfl (by kernel_rfl) (by kernel_rfl) (by kernel_rfl) (fun _ _ _ h => h) (Or.inl ⟨by rfl, ?_⟩) (by assumption) ?_
    · intro w hSw; (try dsimp only at hSw); have c := Sm.cells_of hSw 3 _ rfl; go_simp
    simp only [Act.put, List.setIfInBounds_toArray, List.set_cons_zero, List.set_cons_succ]
    refine wpAnyH_take (i := 11) (oi := ⟨some 25, _, _, _, _, _⟩) (v := .string about) rfl (by kernel_rfl) (by kernel_rfl) (by kernel_rfl) (fun _ _ _ h => h) (Or.inl ⟨by rfl, ?_⟩) (by assumption) ?_
    · intro w hSw; (try dsimp only at hSw); go_simp
    simp only [Act.put, List.setIfInBounds_toArray, List.set_cons_zero, List.set_cons_succ]
    refine wpAnyH_take (i := 12) (oi := ⟨some 26, _, _, _, _, _⟩) (v := .string text) rfl (by kernel_rfl) (by kernel_rfl) (by kernel_rfl) (fun _ _ _ h => h) (Or.inl ⟨by rfl, ?_⟩) (by assumption) ?_
    · intro w hSw; (try dsimp only at hSw); go_simp
    simp only [Act.put, List.setIfInBounds_toArray, List.set_cons_zero, List.set_cons_succ]
    refine wpAnyH_ready (rs := [4, 17]) (by kernel_rfl) (by simp) ?_
    refine (AllReadyH.cons (o := ⟨some 18, _, _, _, _, _⟩) rfl (fun K hK => ?_) (AllReadyH.cons (o := ⟨some 9, _, _, _, _, _⟩) rfl (fun K hK => ?_) AllReadyH.nil))
    · go_simp
      refine (KEYC.out _).mono ?_
      rintro e a1 ⟨rfl, ka1⟩
      have Ba1 := Lib.hid (Ba0.out.trans (ka1.mono (by have := Za0.out; omega)))
      have Ga1 := Lib.hid ((ka1.block N (Sm.lt_of Ga0.out)).trans Ga0.out)
      have Ra1 := Lib.hid ((ka1.block (N + 1) (Sm.lt_of Ra0.out)).trans Ra0.out)
      have Za1 : Hid (N + 2 ≤ a1.heap.size) := by
        show _ ≤ _
        have := ka1.size
        have := Za0.out
        omega
      clear ka1
      refine hK.out _ _ Ga1.out (fun hHeld => ?_)
      clear hK K
      refine wpAnyH_ready (rs := [13, 17]) (by kernel_rfl) (by simp) ?_
      refine (AllReadyH.cons (o := ⟨some 27, _, _, _, _, _⟩) rfl (fun K hK => ?_) (AllReadyH.cons (o := ⟨some 9, _, _, _, _, _⟩) rfl (fun K hK => ?_) AllReadyH.nil))
      · go_simp
        refine (CLOSE.out _).mono ?_
        rintro e a2 ⟨rfl, ka2⟩
        have Ba2 := Lib.hid (Ba1.out.trans (ka2.mono (by have := Za1.out; omega)))
        have Ga2 := Lib.hid ((ka2.block N (Sm.lt_of Ga1.out)).trans Ga1.out)
        have Ra2 := Lib.hid ((ka2.block (N + 1) (Sm.lt_of Ra1.out)).trans Ra1.out)
        have Za2 : Hid (N + 2 ≤ a2.heap.size) := by
          show _ ≤ _
          have := ka2.size
          have := Za1.out
          omega
        clear ka2
        refine hK.out _ _ Ga2.out (fun hHeld => ?_)
        clear hK K
        refine wpAnyH_take (i := 14) (oi := ⟨some 13, _, _, _, _, _⟩) (v := .tuple #[.agg ce.toArray, .int .i64 0]) rfl (by kernel_rfl) (by kernel_rfl) (by kernel_rfl) (fun _ _ _ h => h) (Or.inl ⟨by rfl, ?_⟩) (by assumption) ?_
        · intro w hSw; (try dsimp only at hSw); go_simp
        simp only [Act.put, List.setIfInBounds_toArray, List.set_cons_zero, List.set_cons_succ]
        refine wpAnyH_take (i := 15) (oi := ⟨some 28, _, _, _, _, _⟩) (v := .agg ce.toArray) rfl (by kernel_rfl) (by kernel_rfl) (by kernel_rfl) (fun _ _ _ h => h) (Or.inl ⟨by rfl, ?_⟩) (by assumption) ?_
        · intro w hSw; (try dsimp only at hSw); go_simp
        simp only [Act.put, List.setIfInBounds_toArray, List.set_cons_zero, List.set_cons_succ]
        refine wpAnyH_take (i := 16) (oi := ⟨some 29, _, _, _, _, _⟩) (v := .int .i64 0) rfl (by kernel_rfl) (by kernel_rfl) (by kernel_rfl) (fun _ _ _ h => h) (Or.inl ⟨by rfl, ?_⟩) (by assumption) ?_
        · intro w hSw; (try dsimp only at hSw); go_simp
        simp only [Act.put, List.setIfInBounds_toArray, List.set_cons_zero, List.set_cons_succ]
        refine wpAnyH_ready (rs := [17]) (by kernel_rfl) (by simp) ?_
        refine (AllReadyH.cons (o := ⟨some 9, _, _, _, _, _⟩) rfl (fun K hK => ?_) AllReadyH.nil)
        go_simp
        have ka3 : Below a2.heap.size a2 (a2.alloc (.cells z0 66)) := (Below.refl _ a2).alloc (Nat.le_refl _) _
        have Ea3 := Lib.hid (heap_alloc_new a2 (.cells z0 66))
        have lE := Za2.out
        obtain ⟨E, hE⟩ : ∃ E, E = a2.heap.size := ⟨_, rfl⟩
        have HEE := Lib.hid hE
        rw [← hE] at Ea3 lE ⊢
        clear hE
        generalize a2.alloc (.cells z0 66) = a3 at *
        have Ba3 := Lib.hid (Ba2.out.trans (ka3.mono (by have := Za2.out; omega)))
        have Ga3 := Lib.hid ((ka3.block N (Sm.lt_of Ga2.out)).trans Ga2.out)
        have Ra3 := Lib.hid ((ka3.block (N + 1) (Sm.lt_of Ra2.out)).trans Ra2.out)
        have Za3 : Hid (N + 2 ≤ a3.heap.size) := by
          show _ ≤ _
          have := ka3.size
          have := Za2.out
          omega
        clear ka3
        refine hK.out _ _ Ga3.out (fun hHeld => ?_)
        clear hK K
        refine wpAnyH_ready (rs := [18]) (by kernel_rfl) (by simp) ?_
        refine (AllReadyH.cons (o := ⟨none, _, _, _, _, _⟩) rfl (fun K hK => ?_) AllReadyH.nil)
        rw [if_pos (by simp [Region.wanted])]
        refine wp_store_mid 66 (.tmp 9) (.tmp 28) rfl E 0 ce.toArray rfl rfl (Sm.there_row Ea3.out (by rw [hzs, List.size_toArray, hcel])) (Se.infoEnv (by rw [List.size_toArray, hcel])) hceo ?_
        have Ef := Lib.hid (Sm.heap_setAll (vs := ce) Ea3.out (by rw [hzs, hcel]))
        have Gf := Lib.hid (Sm.other_setCells (vs := ce) (o := 0) (show N ≠ E by omega) Ga3.out)
        have Rf := Lib.hid (Sm.other_setCells (vs := ce) (o := 0) (show N + 1 ≠ E by omega) Ra3.out)
        have Bf := Lib.hid (Ba3.out.grown (Sm.grown_setCells (Sm.grown_refl a3 (some E)) ce 0) (by have := Za3.out; omega) (fun k hk => by cases hk; omega))
        refine hK.out _ _ Gf.out (fun hHeld => ?_)
        clear hK K
        refine wpAnyH_take (i := 19) (oi := ⟨some 10, _, _, _, _, _⟩) (v := .int .i64 0) rfl (by kernel_rfl) (by kernel_rfl) (by kernel_rfl) (fun _ _ _ h => h) (Or.inl ⟨by rfl, ?_⟩) (by assumption) ?_
        · intro w hSw; (try dsimp only at hSw); go_simp
        simp only [Act.put, List.setIfInBounds_toArray, List.set_cons_zero, List.set_cons_succ]
        refine wpAnyH_done (by kernel_rfl) ?_ _
        go_wp2_with fail
        go_meet
        exact ⟨E, rfl, rfl, Ef.out, Gf.out, Rf.out, lE, Bf.out⟩
      · go_simp
        have ka4 : Below a1.heap.size a1 (a1.alloc (.cells z0 66)) := (Below.refl _ a1).alloc (Nat.le_refl _) _
        have Ea4 := Lib.hid (heap_alloc_new a1 (.cells z0 66))
        have lE := Za1.out
        obtain ⟨E, hE⟩ : ∃ E, E = a1.heap.size := ⟨_, rfl⟩
        have HEE := Lib.hid hE
        rw [← hE] at Ea4 lE ⊢
        clear hE
        generalize a1.alloc (.cells z0 66) = a4 at *
        have Ba4 := Lib.hid (Ba1.out.trans (ka4.mono (by have := Za1.out; omega)))
        have Ga4 := Lib.hid ((ka4.block N (Sm.lt_of Ga1.out)).trans Ga1.out)
        have Ra4 := Lib.hid ((ka4.block (N + 1) (Sm.lt_of Ra1.out)).trans Ra1.out)
        have Za4 : Hid (N + 2 ≤ a4.heap.size) := by
          show _ ≤ _
          have := ka4.size
          have := Za1.out
          omega
        clear ka4
        refine hK.out _ _ Ga4.out (fun hHeld => ?_)
        clear hK K
        refine wpAnyH_ready (rs := [13]) (by kernel_rfl) (by simp) ?_
        refine (AllReadyH.cons (o := ⟨some 27, _, _, _, _, _⟩) rfl (fun K hK => ?_) AllReadyH.nil)
        go_simp
        refine (CLOSE.out _).mono ?_
        rintro e a5 ⟨rfl, ka5⟩
        have Ba5 := Lib.hid (Ba4.out.trans (ka5.mono (by have := Za4.out; omega)))
        have Ga5 := Lib.hid ((ka5.block N (Sm.lt_of Ga4.out)).trans Ga4.out)
        have Ra5 := Lib.hid ((ka5.block (N + 1) (Sm.lt_of Ra4.out)).trans Ra4.out)
        have Za5 : Hid (N + 2 ≤ a5.heap.size) := by
          show _ ≤ _
          have := ka5.size
          have := Za4.out
          omega
        have Ea5 := Lib.hid ((ka5.block E (Sm.lt_of Ea4.out)).trans Ea4.out)
        clear ka5
        refine hK.out _ _ Ga5.out (fun hHeld => ?_)
        clear hK K
        refine wpAnyH_take (i := 14) (oi := ⟨some 13, _, _, _, _, _⟩) (v := .tuple #[.agg ce.toArray, .int .i64 0]) rfl (by kernel_rfl) (by kernel_rfl) (by kernel_rfl) (fun _ _ _ h => h) (Or.inl ⟨by rfl, ?_⟩) (by assumption) ?_
        · intro w hSw; (try dsimp only at hSw); go_simp
        simp only [Act.put, List.setIfInBounds_toArray, List.set_cons_zero, List.set_cons_succ]
        refine wpAnyH_take (i := 15) (oi := ⟨some 28, _, _, _, _, _⟩) (v := .agg ce.toArray) rfl (by kernel_rfl) (by kernel_rfl) (by kernel_rfl) (fun _ _ _ h => h) (Or.inl ⟨by rfl, ?_⟩) (by assumption) ?_
        · intro w hSw; (try dsimp only at hSw); go_simp
        simp only [Act.put, List.setIfInBounds_toArray, List.set_cons_zero, List.set_cons_succ]
        refine wpAnyH_take (i := 16) (oi := ⟨some 29, _, _, _, _, _⟩) (v := .int .i64 0) rfl (by kernel_rfl) (by kernel_rfl) (by kernel_rfl) (fun _ _ _ h => h) (Or.inl ⟨by rfl, ?_⟩) (by assumption) ?_
        · intro w hSw; (try dsimp only at hSw); go_simp
        simp only [Act.put, List.setIfInBounds_toArray, List.set_cons_zero, List.set_cons_succ]
        refine wpAnyH_ready (rs := [18]) (by kernel_rfl) (by simp) ?_
        refine (AllReadyH.cons (o := ⟨none, _, _, _, _, _⟩) rfl (fun K hK => ?_) AllReadyH.nil)
        rw [if_pos (by simp [Region.wanted])]
        refine wp_store_mid 66 (.tmp 9) (.tmp 28) rfl E 0 ce.toArray rfl rfl (Sm.there_row Ea5.out (by rw [hzs, List.size_toArray, hcel])) (Se.infoEnv (by rw [List.size_toArray, hcel])) hceo ?_
        have Ef := Lib.hid (Sm.heap_setAll (vs := ce) Ea5.out (by rw [hzs, hcel]))
        have Gf := Lib.hid (Sm.other_setCells (vs := ce) (o := 0) (show N ≠ E by omega) Ga5.out)
        have Rf := Lib.hid (Sm.other_setCells (vs := ce) (o := 0) (show N + 1 ≠ E by omega) Ra5.out)
        have Bf := Lib.hid (Ba5.out.grown (Sm.grown_setCells (Sm.grown_refl a5 (some E)) ce 0) (by have := Za5.out; omega) (fun k hk => by cases hk; omega))
        refine hK.out _ _ Gf.out (fun hHeld => ?_)
        clear hK K
        refine wpAnyH_take (i := 19) (oi := ⟨some 10, _, _, _, _, _⟩) (v := .int .i64 0) rfl (by kernel_rfl) (by kernel_rfl) (by kernel_rfl) (fun _ _ _ h => h) (Or.inl ⟨by rfl, ?_⟩) (by assumption) ?_
        · intro w hSw; (try dsimp only at hSw); go_simp
        simp only [Act.put, List.setIfInBounds_toArray, List.set_cons_zero, List.set_cons_succ]
        refine wpAnyH_done (by kernel_rfl) ?_ _
        go_wp2_with fail
        go_meet
        exact ⟨E, rfl, rfl, Ef.out, Gf.out, Rf.out, lE, Bf.out⟩
    · go_simp
      have ka6 : Below a0.heap.size a0 (a0.alloc (.cells z0 66)) := (Below.refl _ a0).alloc (Nat.le_refl _) _
      have Ea6 := Lib.hid (heap_alloc_new a0 (.cells z0 66))
      have lE := Za0.out
      obtain ⟨E, hE⟩ : ∃ E, E = a0.heap.size := ⟨_, rfl⟩
      have HEE := Lib.hid hE
      rw [← hE] at Ea6 lE ⊢
      clear hE
      generalize a0.alloc (.cells z0 66) = a6 at *
      have Ba6 := Lib.hid (Ba0.out.trans (ka6.mono (by have := Za0.out; omega)))
      have Ga6 := Lib.hid ((ka6.block N (Sm.lt_of Ga0.out)).trans Ga0.out)
      have Ra6 := Lib.hid ((ka6.block (N + 1) (Sm.lt_of Ra0.out)).trans Ra0.out)
      have Za6 : Hid (N + 2 ≤ a6.heap.size) := by
        show _ ≤ _
        have := ka6.size
        have := Za0.out
        omega
      clear ka6
      refine hK.out _ _ Ga6.out (fun hHeld => ?_)
      clear hK K
      refine wpAnyH_ready (rs := [4]) (by kernel_rfl) (by simp) ?_
      refine (AllReadyH.cons (o := ⟨some 18, _, _, _, _, _⟩) rfl (fun K hK => ?_) AllReadyH.nil)
      go_simp
      refine (KEYC.out _).mono ?_
      rintro e a7 ⟨rfl, ka7⟩
      have Ba7 := Lib.hid (Ba6.out.trans (ka7.mono (by have := Za6.out; omega)))
      have Ga7 := Lib.hid ((ka7.block N (Sm.lt_of Ga6.out)).trans Ga6.out)
      have Ra7 := Lib.hid ((ka7.block (N + 1) (Sm.lt_of Ra6.out)).trans Ra6.out)
      have Za7 : Hid (N + 2 ≤ a7.heap.size) := by
        show _ ≤ _
        have := ka7.size
        have := Za6.out
        omega
      have Ea7 := Lib.hid ((ka7.block E (Sm.lt_of Ea6.out)).trans Ea6.out)
      clear ka7
      refine hK.out _ _ Ga7.out (fun hHeld => ?_)
      clear hK K
      refine wpAnyH_ready (rs := [13]) (by kernel_rfl) (by simp) ?_
      refine (AllReadyH.cons (o := ⟨some 27, _, _, _, _, _⟩) rfl (fun K hK => ?_) AllReadyH.nil)
      go_simp
      refine (CLOSE.out _).mono ?_
      rintro e a8 ⟨rfl, ka8⟩
      have Ba8 := Lib.hid (Ba7.out.trans (ka8.mono (by have := Za7.out; omega)))
      have Ga8 := Lib.hid ((ka8.block N (Sm.lt_of Ga7.out)).trans Ga7.out)
      have Ra8 := Lib.hid ((ka8.block (N + 1) (Sm.lt_of Ra7.out)).trans Ra7.out)
      have Za8 : Hid (N + 2 ≤ a8.heap.size) := by
        show _ ≤ _
        have := ka8.size
        have := Za7.out
        omega
      have Ea8 := Lib.hid ((ka8.block E (Sm.lt_of Ea7.out)).trans Ea7.out)
      clear ka8
      refine hK.out _ _ Ga8.out (fun hHeld => ?_)
      clear hK K
      refine wpAnyH_take (i := 14) (oi := ⟨some 13, _, _, _, _, _⟩) (v := .tuple #[.agg ce.toArray, .int .i64 0]) rfl (by kernel_rfl) (by kernel_rfl) (by kernel_rfl) (fun _ _ _ h => h) (Or.inl ⟨by rfl, ?_⟩) (by assumption) ?_
      · intro w hSw; (try dsimp only at hSw); go_simp
      simp only [Act.put, List.setIfInBounds_toArray, List.set_cons_zero, List.set_cons_succ]
      refine wpAnyH_take (i := 15) (oi := ⟨some 28, _, _, _, _, _⟩) (v := .agg ce.toArray) rfl (by kernel_rfl) (by kernel_rfl) (by kernel_rfl) (fun _ _ _ h => h) (Or.inl ⟨by rfl, ?_⟩) (by assumption) ?_
      · intro w hSw; (try dsimp only at hSw); go_simp
      simp only [Act.put, List.setIfInBounds_toArray, List.set_cons_zero, List.set_cons_succ]
      refine wpAnyH_take (i := 16) (oi := ⟨some 29, _, _, _, _, _⟩) (v := .int .i64 0) rfl (by kernel_rfl) (by kernel_rfl) (by kernel_rfl) (fun _ _ _ h => h) (Or.inl ⟨by rfl, ?_⟩) (by assumption) ?_
      · intro w hSw; (try dsimp only at hSw); go_simp
      simp only [Act.put, List.setIfInBounds_toArray, List.set_cons_zero, List.set_cons_succ]
      refine wpAnyH_ready (rs := [18]) (by kernel_rfl) (by simp) ?_
      refine (AllReadyH.cons (o := ⟨none, _, _, _, _, _⟩) rfl (fun K hK => ?_) AllReadyH.nil)
      rw [if_pos (by simp [Region.wanted])]
      refine wp_store_mid 66 (.tmp 9) (.tmp 28) rfl E 0 ce.toArray rfl rfl (Sm.there_row Ea8.out (by rw [hzs, List.size_toArray, hcel])) (Se.infoEnv (by rw [List.size_toArray, hcel])) hceo ?_
      have Ef := Lib.hid (Sm.heap_setAll (vs := ce) Ea8.out (by rw [hzs, hcel]))
      have Gf := Lib.hid (Sm.other_setCells (vs := ce) (o := 0) (show N ≠ E by omega) Ga8.out)
      have Rf := Lib.hid (Sm.other_setCells (vs := ce) (o := 0) (show N + 1 ≠ E by omega) Ra8.out)
      have Bf := Lib.hid (Ba8.out.grown (Sm.grown_setCells (Sm.grown_refl a8 (some E)) ce 0) (by have := Za8.out; omega) (fun k hk => by cases hk; omega))
      refine hK.out _ _ Gf.out (fun hHeld => ?_)
      clear hK K
      refine wpAnyH_take (i := 19) (oi := ⟨some 10, _, _, _, _, _⟩) (v := .int .i64 0) rfl (by kernel_rfl) (by kernel_rfl) (by kernel_rfl) (fun _ _ _ h => h) (Or.inl ⟨by rfl, ?_⟩) (by assumption) ?_
      · intro w hSw; (try dsimp only at hSw); go_simp
      simp only [Act.put, List.setIfInBounds_toArray, List.set_cons_zero, List.set_cons_succ]
      refine wpAnyH_done (by kernel_rfl) ?_ _
      go_wp2_with fail
      go_meet
      exact ⟨E, rfl, rfl, Ef.out, Gf.out, Rf.out, lE, Bf.out⟩
  case rest =>
    obtain ⟨E, rfl, rfl, he, hg, hr, lE, bl⟩ := hcut
    have HE := Lib.hid he
    have HG := Lib.hid hg
    have HR := Lib.hid hr
    have BL := Lib.hid bl
    clear he hg hr bl B2 G2 R2 Z2 KEYC CLOSE
    go_wp2_with (with_reducible refine wpList_load_row rfl 66 (.tmp 9) rfl E rfl 66 ce.toArray (0, 0) _ (by exact HE.out) Tryz.underlying66 rfl (Se.infoEnv (by rw [List.size_toArray, hcel])) ?_)
    refine (BY.out _).mono ?_
    rintro e w9 ⟨rfl, k9⟩
    have hg9 := (k9.block N (Sm.lt_of HG.out)).trans HG.out
    have hr9 := (k9.block (N + 1) (Sm.lt_of HR.out)).trans HR.out
    have b9 := BL.out.trans (k9.mono (by have := Sm.lt_of HE.out; omega))
    have c3 := Sm.cells_of hg9 3 _ rfl
    have f3 := Sm.free_of hg9 3
    have h10 := Sm.heap_set hg9 3 (.int .u64 n1)
    have e10 : (#[.string M, .int .i64 cur, .int .u32 (boot : Int), .int .u64 (n : Int)] : Array Value).setIfInBounds 3 (.int .u64 n1) = #[.string M, .int .i64 cur, .int .u32 (boot : Int), .int .u64 n1] := rfl
    rw [e10] at h10
    have r10 : (w9.setCell ⟨N, 3, none⟩ (.int .u64 n1)).heap[N + 1]? = some (.cells #[.string ⟨#[]⟩, .int .i64 0, .int .u32 0, .int .u64 0] 32 (0, 0)) := by rw [Below.heap_setCell _ _ _ _ (show N + 1 ≠ N by omega)]; exact hr9
    have b10 := b9.setCell (p := ⟨N, 3, none⟩) (Nat.le_refl N) (.int .u64 n1)
    have H10 := Lib.hid h10
    have R10 := Lib.hid r10
    have B10 := Lib.hid b10
    clear hg9 hr9 b9 k9 h10 r10 b10 e10 HE HG HR BL BY
    go_upto_region 6 with (fail)
    clear c3 f3
    generalize w9.setCell ⟨N, 3, none⟩ (.int .u64 n1) = wj at *
    have y0 := Sm.cells_of H10.out 0 _ rfl; have y1 := Sm.cells_of H10.out 1 _ rfl; have y2 := Sm.cells_of H10.out 2 _ rfl; have y3 := Sm.cells_of H10.out 3 _ rfl
    have z0' := Sm.cells_of R10.out 0 _ rfl; have z1' := Sm.cells_of R10.out 1 _ rfl; have z2' := Sm.cells_of R10.out 2 _ rfl; have z3' := Sm.cells_of R10.out 3 _ rfl
    have yf0 := Sm.free_of R10.out 0; have yf1 := Sm.free_of R10.out 1; have yf2 := Sm.free_of R10.out 2; have yf3 := Sm.free_of R10.out 3
    have FIN := Ri.set4 R10.out rfl (.string M) (.int .i64 cur) (.int .u32 (boot : Int)) (.int .u64 n1)
    have BF := Lib.hid (Ri.set4_below B10.out (Nat.le_succ N) (.string M) (.int .i64 cur) (.int .u32 (boot : Int)) (.int .u64 n1))
    have FI := Lib.hid FIN
    clear FIN H10 R10 B10
    go_wp2
    generalize ((((wj.setCell ⟨N + 1, 0, none⟩ (.string M)).setCell ⟨N + 1, 1, none⟩ (.int .i64 cur)).setCell ⟨N + 1, 2, none⟩ (.int .u32 (boot : Int))).setCell ⟨N + 1, 3, none⟩ (.int .u64 n1)) = wf at *
    clear y0 y1 y2 y3 z0' z1' z2' z3' yf0 yf1 yf2 yf3
    have x0 := Sm.cells_of FI.out 0 _ rfl; have x1 := Sm.cells_of FI.out 1 _ rfl; have x2 := Sm.cells_of FI.out 2 _ rfl; have x3 := Sm.cells_of FI.out 3 _ rfl
    refine bodyPost_ret (v := .tuple #[.agg #[.string M, .int .i64 cur, .int .u32 (boot : Int), .int .u64 n1], .string bx, .int .i64 0]) ((Ri.results_ctt rfl _ _ _).trans (by go_simp)) rfl ⟨rfl, ?_⟩
    rw [← HN.out]; exact BF.out
set_option maxRecDepth 100000 in
set_option maxHeartbeats 4000000 in
theorem r6Wrap_long (w : World) (M : ByteArray) (hM : M.size ≤ 35184372088832) (cur : Int) (hc : 0 ≤ cur ∧ cur ≤ 1048576) (boot n : Nat) (hb : boot < 2 ^ 32) (hn : n + 1 < 2 ^ 64) (about text : ByteArray) (ha : about.size ≤ 20000) (ht : 8192 < text.size) (ht2 : text.size ≤ 9223372036854775807) :
    Calls Tryz.prog 7 #[.agg #[.string M, .int .i64 cur, .int .u32 (boot : Int), .int .u64 (n : Int)], .string about, .string text] w fun e w' => e = .returned (.tuple #[.agg #[.string M, .int .i64 cur, .int .u32 (boot : Int), .int .u64 (n : Int)], .string ⟨#[]⟩, .int .i64 3]) ∧ Below w.heap.size w w' := by
  have hz1 := (zero_of_info Se.zeroEnv).1
  have hzs : Se.zero.cells.toArray.size = 36 := Se.cells_length _ (by rfl)
  obtain ⟨z0, hz0⟩ : ∃ z, z = Se.zero.cells.toArray := ⟨_, rfl⟩
  rw [← hz0] at hz1 hzs
  have htl : text.data.toList.length = text.size := by rw [Array.length_toList]; rfl
  obtain ⟨kk, hkk⟩ : ∃ k, k = Ri.key M.data.toList cur := ⟨_, rfl⟩
  have hkl : kk.length = 32 := by rw [hkk]; exact Ri.key_length _ _
  obtain ⟨ck, hck⟩ : ∃ c, c = Lib.byteCells kk := ⟨_, rfl⟩
  obtain ⟨en, hen⟩ : ∃ e, e = Se.zero := ⟨_, rfl⟩
  have hok : en.Ok := by rw [hen]; exact Ri.zero_ok
  obtain ⟨ce, hce⟩ : ∃ c, c = en.cells := ⟨_, rfl⟩
  have hcel : ce.length = 36 := by rw [hce]; exact Se.cells_length _ hok.tag
  have hceo : ce.toArray.all (·.oneCell') = true := by rw [hce]; exact Se.cells_one _
  have KEYC : Hid (∀ wx : World, Calls Tryz.prog 17 #[.string M, .int .i64 cur] wx fun e w' => e = .returned (.agg ck.toArray) ∧ Below wx.heap.size wx w') := fun wx => by
    rw [hck, hkk]; exact r6Key_any wx M hM cur
  have CLOSE : Hid (∀ wx : World, Calls Tryz.prog 16 #[.agg ck.toArray, .int .i64 cur, .int .u32 (boot : Int), .int .u64 (n : Int), .string about, .string text] wx fun e w' => e = .returned (.tuple #[.agg ce.toArray, .int .i64 3]) ∧ Below wx.heap.size wx w') := fun wx => by
    have q := r5Close_any wx kk hkl cur (by omega) boot n hb (by omega) about text ha (by omega)
    unfold Se.close at q
    rw [if_pos hc, if_neg (by omega), ← hen] at q
    rw [hck, hce]
    exact q
  clear hz0 htl hkk hck hen hok hce hkl
  go_enter Tryz.func7, Tryz.ntmps7
  go_upto_region 1 with (fail)
  have b2 : Below w.heap.size w ((w.alloc (.cells #[.string M, .int .i64 cur, .int .u32 (boot : Int), .int .u64 (n : Int)] 32)).alloc (.cells #[.string ⟨#[]⟩, .int .i64 0, .int .u32 0, .int .u64 0] 32)) := ((Below.refl _ w).alloc (Nat.le_refl _) _).alloc (by simp) _
  have g2 : ((w.alloc (.cells #[.string M, .int .i64 cur, .int .u32 (boot : Int), .int .u64 (n : Int)] 32)).alloc (.cells #[.string ⟨#[]⟩, .int .i64 0, .int .u32 0, .int .u64 0] 32)).heap[w.heap.size]? = some (.cells #[.string M, .int .i64 cur, .int .u32 (boot : Int), .int .u64 (n : Int)] 32 (0, 0)) := by rw [Below.heap_alloc _ _ _ (by simp)]; exact heap_alloc_new w _
  have r2 : ((w.alloc (.cells #[.string M, .int .i64 cur, .int .u32 (boot : Int), .int .u64 (n : Int)] 32)).alloc (.cells #[.string ⟨#[]⟩, .int .i64 0, .int .u32 0, .int .u64 0] 32)).heap[w.heap.size + 1]? = some (.cells #[.string ⟨#[]⟩, .int .i64 0, .int .u32 0, .int .u64 0] 32 (0, 0)) := by
    have q := heap_alloc_new (w.alloc (.cells #[.string M, .int .i64 cur, .int .u32 (boot : Int), .int .u64 (n : Int)] 32)) (.cells #[.string ⟨#[]⟩, .int .i64 0, .int .u32 0, .int .u64 0] 32)
    rw [World.size_alloc] at q
    exact q
  have z2 : w.heap.size + 2 ≤ ((w.alloc (.cells #[.string M, .int .i64 cur, .int .u32 (boot : Int), .int .u64 (n : Int)] 32)).alloc (.cells #[.string ⟨#[]⟩, .int .i64 0, .int .u32 0, .int .u64 0] 32)).heap.size := by simp
  obtain ⟨N, hN⟩ : ∃ N, N = w.heap.size := ⟨_, rfl⟩
  rw [← hN] at b2 g2 r2 z2 ⊢
  have HN := Lib.hid hN
  have B2 := Lib.hid b2
  have G2 := Lib.hid g2
  have R2 := Lib.hid r2
  have Z2 := Lib.hid z2
  clear hN b2 g2 r2 z2
  generalize ((w.alloc (.cells #[.string M, .int .i64 cur, .int .u32 (boot : Int), .int .u64 (n : Int)] 32)).alloc (.cells #[.string ⟨#[]⟩, .int .i64 0, .int .u32 0, .int .u64 0] 32)) = w2 at *
  go_cut [9, 10] from 13 (fun s9 s10 wx => ∃ E : Nat, s9 = .pointer (some ⟨E, 0, none⟩) ∧ s10 = .int .i64 3 ∧ (wx.heap[E]? = some (.cells ce.toArray 66 (0, 0)) ∧ wx.heap[N]? = some (.cells #[.string M, .int .i64 cur, .int .u32 (boot : Int), .int .u64 (n : Int)] 32 (0, 0)) ∧ wx.heap[N + 1]? = some (.cells #[.string ⟨#[]⟩, .int .i64 0, .int .u32 0, .int .u64 0] 32 (0, 0)) ∧ N + 2 ≤ E ∧ Below N w wx))
  case first =>
    refine wp_region_held_drew (S := (fun w' => w'.heap[N]? = some (.cells #[.string M, .int .i64 cur, .int .u32 (boot : Int), .int .u64 (n : Int)] 32 (0, 0)))) (by kernel_rfl) G2.out (fun hHeld => ?_)
    have Ba0 : Hid (Below N w w2.drew) := B2.out.drew
    have Ga0 : Hid (w2.drew.heap[N]? = some (.cells #[.string M, .int .i64 cur, .int .u32 (boot : Int), .int .u64 (n : Int)] 32 (0, 0))) := G2.out
    have Ra0 : Hid (w2.drew.heap[N + 1]? = some (.cells #[.string ⟨#[]⟩, .int .i64 0, .int .u32 0, .int .u64 0] 32 (0, 0))) := R2.out
    have Za0 : Hid (N + 2 ≤ w2.drew.heap.size) := Z2.out
    generalize w2.drew = a0 at *
    refine wpAnyH_take (i := 0) (oi := ⟨some 14, _, _, _, _, _⟩) (v := .pointer (some ⟨N, 0, none⟩)) rfl (by kernel_rfl) (by kernel_rfl) (by kernel_rfl) (fun _ _ _ h => h) (Or.inl ⟨by rfl, ?_⟩) (by assumption) ?_
    · intro w hSw; (try dsimp only at hSw); go_simp
    simp only [Act.put, List.setIfInBounds_toArray, List.set_cons_zero, List.set_cons_succ]
    refine wpAnyH_take (i := 1) (oi := ⟨some 15, _, _, _, _, _⟩) (v := .string M) rfl (by kernel_rfl) (by kernel_rfl) (by kernel_rfl) (fun _ _ _ h => h) (Or.inl ⟨by rfl, ?_⟩) (by assumption) ?_
    · intro w hSw; (try dsimp only at hSw); have c := Sm.cells_of hSw 0 _ rfl; go_simp
    simp only [Act.put, List.setIfInBounds_toArray, List.set_cons_zero, List.set_cons_succ]
    refine wpAnyH_take (i := 2) (oi := ⟨some 16, _, _, _, _, _⟩) (v := .pointer (some ⟨N, 1, none⟩)) rfl (by kernel_rfl) (by kernel_rfl) (by kernel_rfl) (fun _ _ _ h => h) (Or.inl ⟨by rfl, ?_⟩) (by assumption) ?_
    · intro w hSw; (try dsimp only at hSw); go_simp
    simp only [Act.put, List.setIfInBounds_toArray, List.set_cons_zero, List.set_cons_succ]
    refine wpAnyH_take (i := 3) (oi := ⟨some 17, _, _, _, _, _⟩) (v := .int .i64 cur) rfl (by kernel_rfl) (by kernel_rfl) (by kernel_rfl) (fun _ _ _ h => h) (Or.inl ⟨by rfl, ?_⟩) (by assumption) ?_
    · intro w hSw; (try dsimp only at hSw); have c := Sm.cells_of hSw 1 _ rfl; go_simp
    simp only [Act.put, List.setIfInBounds_toArray, List.set_cons_zero, List.set_cons_succ]
    refine wpAnyH_take (i := 5) (oi := ⟨some 19, _, _, _, _, _⟩) (v := .pointer (some ⟨N, 1, none⟩)) rfl (by kernel_rfl) (by kernel_rfl) (by kernel_rfl) (fun _ _ _ h => h) (Or.inl ⟨by rfl, ?_⟩) (by assumption) ?_
    · intro w hSw; (try dsimp only at hSw); go_simp
    simp only [Act.put, List.setIfInBounds_toArray, List.set_cons_zero, List.set_cons_succ]
    refine wpAnyH_take (i := 6) (oi := ⟨some 20, _, _, _, _, _⟩) (v := .int .i64 cur) rfl (by kernel_rfl) (by kernel_rfl) (by kernel_rfl) (fun _ _ _ h => h) (Or.inl ⟨by rfl, ?_⟩) (by assumption) ?_
    · intro w hSw; (try dsimp only at hSw); have c := Sm.cells_of hSw 1 _ rfl; go_simp
    simp only [Act.put, List.setIfInBounds_toArray, List.set_cons_zero, List.set_cons_succ]
    refine wpAnyH_take (i := 7) (oi := ⟨some 21, _, _, _, _, _⟩) (v := .pointer (some ⟨N, 2, none⟩)) rfl (by kernel_rfl) (by kernel_rfl) (by kernel_rfl) (fun _ _ _ h => h) (Or.inl ⟨by rfl, ?_⟩) (by assumption) ?_
    · intro w hSw; (try dsimp only at hSw); go_simp
    simp only [Act.put, List.setIfInBounds_toArray, List.set_cons_zero, List.set_cons_succ]
    refine wpAnyH_take (i := 8) (oi := ⟨some 22, _, _, _, _, _⟩) (v := .int .u32 (boot : Int)) rfl (by kernel_rfl) (by kernel_rfl) (by kernel_rfl) (fun _ _ _ h => h) (Or.inl ⟨by rfl, ?_⟩) (by assumption) ?_
    · intro w hSw; (try dsimp only at hSw); have c := Sm.cells_of hSw 2 _ rfl; go_simp
    simp only [Act.put, List.setIfInBounds_toArray, List.set_cons_zero, List.set_cons_succ]
    refine wpAnyH_take (i := 9) (oi := ⟨some 23, _, _, _, _, _⟩) (v := .pointer (some ⟨N, 3, none⟩)) rfl (by kernel_rfl) (by kernel_rfl) (by kernel_rfl) (fun _ _ _ h => h) (Or.inl ⟨by rfl, ?_⟩) (by assumption) ?_
    · intro w hSw; (try dsimp only at hSw); go_simp
    simp only [Act.put, List.setIfInBounds_toArray, List.set_cons_zero, List.set_cons_succ]
    refine wpAnyH_take (i := 10) (oi := ⟨some 24, _, _, _, _, _⟩) (v := .int .u64 (n : Int)) rfl (by kernel_rfl) (by kernel_rfl) (by kernel_rfl) (fun _ _ _ h => h) (Or.inl ⟨by rfl, ?_⟩) (by assumption) ?_
    · intro w hSw; (try dsimp only at hSw); have c := Sm.cells_of hSw 3 _ rfl; go_simp
    simp only [Act.put, List.setIfInBounds_toArray, List.set_cons_zero, List.set_cons_succ]
    refine wpAnyH_take (i := 11) (oi := ⟨some 25, _, _, _, _, _⟩) (v := .string about) rfl (by kernel_rfl) (by kernel_rfl) (by kernel_rfl) (fun _ _ _ h => h) (Or.inl ⟨by rfl, ?_⟩) (by assumption) ?_
    · intro w hSw; (try dsimp only at hSw); go_simp
    simp only [Act.put, List.setIfInBounds_toArray, List.set_cons_zero, List.set_cons_succ]
    refine wpAnyH_take (i := 12) (oi := ⟨some 26, _, _, _, _, _⟩) (v := .string text) rfl (by kernel_rfl) (by kernel_rfl) (by kernel_rfl) (fun _ _ _ h => h) (Or.inl ⟨by rfl, ?_⟩) (by assumption) ?_
    · intro w hSw; (try dsimp only at hSw); go_simp
    simp only [Act.put, List.setIfInBounds_toArray, List.set_cons_zero, List.set_cons_succ]
    refine wpAnyH_ready (rs := [4, 17]) (by kernel_rfl) (by simp) ?_
    refine (AllReadyH.cons (o := ⟨some 18, _, _, _, _, _⟩) rfl (fun K hK => ?_) (AllReadyH.cons (o := ⟨some 9, _, _, _, _, _⟩) rfl (fun K hK => ?_) AllReadyH.nil))
    · go_simp
      refine (KEYC.out _).mono ?_
      rintro e a1 ⟨rfl, ka1⟩
      have Ba1 := Lib.hid (Ba0.out.trans (ka1.mono (by have := Za0.out; omega)))
      have Ga1 := Lib.hid ((ka1.block N (Sm.lt_of Ga0.out)).trans Ga0.out)
      have Ra1 := Lib.hid ((ka1.block (N + 1) (Sm.lt_of Ra0.out)).trans Ra0.out)
      have Za1 : Hid (N + 2 ≤ a1.heap.size) := by
        show _ ≤ _
        have := ka1.size
        have := Za0.out
        omega
      clear ka1
      refine hK.out _ _ Ga1.out (fun hHeld => ?_)
      clear hK K
      refine wpAnyH_ready (rs := [13, 17]) (by kernel_rfl) (by simp) ?_
      refine (AllReadyH.cons (o := ⟨some 27, _, _, _, _, _⟩) rfl (fun K hK => ?_) (AllReadyH.cons (o := ⟨some 9, _, _, _, _, _⟩) rfl (fun K hK => ?_) AllReadyH.nil))
      · go_simp
        refine (CLOSE.out _).mono ?_
        rintro e a2 ⟨rfl, ka2⟩
        have Ba2 := Lib.hid (Ba1.out.trans (ka2.mono (by have := Za1.out; omega)))
        have Ga2 := Lib.hid ((ka2.block N (Sm.lt_of Ga1.out)).trans Ga1.out)
        have Ra2 := Lib.hid ((ka2.block (N + 1) (Sm.lt_of Ra1.out)).trans Ra1.out)
        have Za2 : Hid (N + 2 ≤ a2.heap.size) := by
          show _ ≤ _
          have := ka2.size
          have := Za1.out
          omega
        clear ka2
        refine hK.out _ _ Ga2.out (fun hHeld => ?_)
        clear hK K
        refine wpAnyH_take (i := 14) (oi := ⟨some 13, _, _, _, _, _⟩) (v := .tuple #[.agg ce.toArray, .int .i64 3]) rfl (by kernel_rfl) (by kernel_rfl) (by kernel_rfl) (fun _ _ _ h => h) (Or.inl ⟨by rfl, ?_⟩) (by assumption) ?_
        · intro w hSw; (try dsimp only at hSw); go_simp
        simp only [Act.put, List.setIfInBounds_toArray, List.set_cons_zero, List.set_cons_succ]
        refine wpAnyH_take (i := 15) (oi := ⟨some 28, _, _, _, _, _⟩) (v := .agg ce.toArray) rfl (by kernel_rfl) (by kernel_rfl) (by kernel_rfl) (fun _ _ _ h => h) (Or.inl ⟨by rfl, ?_⟩) (by assumption) ?_
        · intro w hSw; (try dsimp only at hSw); go_simp
        simp only [Act.put, List.setIfInBounds_toArray, List.set_cons_zero, List.set_cons_succ]
        refine wpAnyH_take (i := 16) (oi := ⟨some 29, _, _, _, _, _⟩) (v := .int .i64 3) rfl (by kernel_rfl) (by kernel_rfl) (by kernel_rfl) (fun _ _ _ h => h) (Or.inl ⟨by rfl, ?_⟩) (by assumption) ?_
        · intro w hSw; (try dsimp only at hSw); go_simp
        simp only [Act.put, List.setIfInBounds_toArray, List.set_cons_zero, List.set_cons_succ]
        refine wpAnyH_ready (rs := [17]) (by kernel_rfl) (by simp) ?_
        refine (AllReadyH.cons (o := ⟨some 9, _, _, _, _, _⟩) rfl (fun K hK => ?_) AllReadyH.nil)
        go_simp
        have ka3 : Below a2.heap.size a2 (a2.alloc (.cells z0 66)) := (Below.refl _ a2).alloc (Nat.le_refl _) _
        have Ea3 := Lib.hid (heap_alloc_new a2 (.cells z0 66))
        have lE := Za2.out
        obtain ⟨E, hE⟩ : ∃ E, E = a2.heap.size := ⟨_, rfl⟩
        have HEE := Lib.hid hE
        rw [← hE] at Ea3 lE ⊢
        clear hE
        generalize a2.alloc (.cells z0 66) = a3 at *
        have Ba3 := Lib.hid (Ba2.out.trans (ka3.mono (by have := Za2.out; omega)))
        have Ga3 := Lib.hid ((ka3.block N (Sm.lt_of Ga2.out)).trans Ga2.out)
        have Ra3 := Lib.hid ((ka3.block (N + 1) (Sm.lt_of Ra2.out)).trans Ra2.out)
        have Za3 : Hid (N + 2 ≤ a3.heap.size) := by
          show _ ≤ _
          have := ka3.size
          have := Za2.out
          omega
        clear ka3
        refine hK.out _ _ Ga3.out (fun hHeld => ?_)
        clear hK K
        refine wpAnyH_ready (rs := [18]) (by kernel_rfl) (by simp) ?_
        refine (AllReadyH.cons (o := ⟨none, _, _, _, _, _⟩) rfl (fun K hK => ?_) AllReadyH.nil)
        rw [if_pos (by simp [Region.wanted])]
        refine wp_store_mid 66 (.tmp 9) (.tmp 28) rfl E 0 ce.toArray rfl rfl (Sm.there_row Ea3.out (by rw [hzs, List.size_toArray, hcel])) (Se.infoEnv (by rw [List.size_toArray, hcel])) hceo ?_
        have Ef := Lib.hid (Sm.heap_setAll (vs := ce) Ea3.out (by rw [hzs, hcel]))
        have Gf := Lib.hid (Sm.other_setCells (vs := ce) (o := 0) (show N ≠ E by omega) Ga3.out)
        have Rf := Lib.hid (Sm.other_setCells (vs := ce) (o := 0) (show N + 1 ≠ E by omega) Ra3.out)
        have Bf := Lib.hid (Ba3.out.grown (Sm.grown_setCells (Sm.grown_refl a3 (some E)) ce 0) (by have := Za3.out; omega) (fun k hk => by cases hk; omega))
        refine hK.out _ _ Gf.out (fun hHeld => ?_)
        clear hK K
        refine wpAnyH_take (i := 19) (oi := ⟨some 10, _, _, _, _, _⟩) (v := .int .i64 3) rfl (by kernel_rfl) (by kernel_rfl) (by kernel_rfl) (fun _ _ _ h => h) (Or.inl ⟨by rfl, ?_⟩) (by assumption) ?_
        · intro w hSw; (try dsimp only at hSw); go_simp
        simp only [Act.put, List.setIfInBounds_toArray, List.set_cons_zero, List.set_cons_succ]
        refine wpAnyH_done (by kernel_rfl) ?_ _
        go_wp2_with fail
        go_meet
        exact ⟨E, rfl, rfl, Ef.out, Gf.out, Rf.out, lE, Bf.out⟩
      · go_simp
        have ka4 : Below a1.heap.size a1 (a1.alloc (.cells z0 66)) := (Below.refl _ a1).alloc (Nat.le_refl _) _
        have Ea4 := Lib.hid (heap_alloc_new a1 (.cells z0 66))
        have lE := Za1.out
        obtain ⟨E, hE⟩ : ∃ E, E = a1.heap.size := ⟨_, rfl⟩
        have HEE := Lib.hid hE
        rw [← hE] at Ea4 lE ⊢
        clear hE
        generalize a1.alloc (.cells z0 66) = a4 at *
        have Ba4 := Lib.hid (Ba1.out.trans (ka4.mono (by have := Za1.out; omega)))
        have Ga4 := Lib.hid ((ka4.block N (Sm.lt_of Ga1.out)).trans Ga1.out)
        have Ra4 := Lib.hid ((ka4.block (N + 1) (Sm.lt_of Ra1.out)).trans Ra1.out)
        have Za4 : Hid (N + 2 ≤ a4.heap.size) := by
          show _ ≤ _
          have := ka4.size
          have := Za1.out
          omega
        clear ka4
        refine hK.out _ _ Ga4.out (fun hHeld => ?_)
        clear hK K
        refine wpAnyH_ready (rs := [13]) (by kernel_rfl) (by simp) ?_
        refine (AllReadyH.cons (o := ⟨some 27, _, _, _, _, _⟩) rfl (fun K hK => ?_) AllReadyH.nil)
        go_simp
        refine (CLOSE.out _).mono ?_
        rintro e a5 ⟨rfl, ka5⟩
        have Ba5 := Lib.hid (Ba4.out.trans (ka5.mono (by have := Za4.out; omega)))
        have Ga5 := Lib.hid ((ka5.block N (Sm.lt_of Ga4.out)).trans Ga4.out)
        have Ra5 := Lib.hid ((ka5.block (N + 1) (Sm.lt_of Ra4.out)).trans Ra4.out)
        have Za5 : Hid (N + 2 ≤ a5.heap.size) := by
          show _ ≤ _
          have := ka5.size
          have := Za4.out
          omega
        have Ea5 := Lib.hid ((ka5.block E (Sm.lt_of Ea4.out)).trans Ea4.out)
        clear ka5
        refine hK.out _ _ Ga5.out (fun hHeld => ?_)
        clear hK K
        refine wpAnyH_take (i := 14) (oi := ⟨some 13, _, _, _, _, _⟩) (v := .tuple #[.agg ce.toArray, .int .i64 3]) rfl (by kernel_rfl) (by kernel_rfl) (by kernel_rfl) (fun _ _ _ h => h) (Or.inl ⟨by rfl, ?_⟩) (by assumption) ?_
        · intro w hSw; (try dsimp only at hSw); go_simp
        simp only [Act.put, List.setIfInBounds_toArray, List.set_cons_zero, List.set_cons_succ]
        refine wpAnyH_take (i := 15) (oi := ⟨some 28, _, _, _, _, _⟩) (v := .agg ce.toArray) rfl (by kernel_rfl) (by kernel_rfl) (by kernel_rfl) (fun _ _ _ h => h) (Or.inl ⟨by rfl, ?_⟩) (by assumption) ?_
        · intro w hSw; (try dsimp only at hSw); go_simp
        simp only [Act.put, List.setIfInBounds_toArray, List.set_cons_zero, List.set_cons_succ]
        refine wpAnyH_take (i := 16) (oi := ⟨some 29, _, _, _, _, _⟩) (v := .int .i64 3) rfl (by kernel_rfl) (by kernel_rfl) (by kernel_rfl) (fun _ _ _ h => h) (Or.inl ⟨by rfl, ?_⟩) (by assumption) ?_
        · intro w hSw; (try dsimp only at hSw); go_simp
        simp only [Act.put, List.setIfInBounds_toArray, List.set_cons_zero, List.set_cons_succ]
        refine wpAnyH_ready (rs := [18]) (by kernel_rfl) (by simp) ?_
        refine (AllReadyH.cons (o := ⟨none, _, _, _, _, _⟩) rfl (fun K hK => ?_) AllReadyH.nil)
        rw [if_pos (by simp [Region.wanted])]
        refine wp_store_mid 66 (.tmp 9) (.tmp 28) rfl E 0 ce.toArray rfl rfl (Sm.there_row Ea5.out (by rw [hzs, List.size_toArray, hcel])) (Se.infoEnv (by rw [List.size_toArray, hcel])) hceo ?_
        have Ef := Lib.hid (Sm.heap_setAll (vs := ce) Ea5.out (by rw [hzs, hcel]))
        have Gf := Lib.hid (Sm.other_setCells (vs := ce) (o := 0) (show N ≠ E by omega) Ga5.out)
        have Rf := Lib.hid (Sm.other_setCells (vs := ce) (o := 0) (show N + 1 ≠ E by omega) Ra5.out)
        have Bf := Lib.hid (Ba5.out.grown (Sm.grown_setCells (Sm.grown_refl a5 (some E)) ce 0) (by have := Za5.out; omega) (fun k hk => by cases hk; omega))
        refine hK.out _ _ Gf.out (fun hHeld => ?_)
        clear hK K
        refine wpAnyH_take (i := 19) (oi := ⟨some 10, _, _, _, _, _⟩) (v := .int .i64 3) rfl (by kernel_rfl) (by kernel_rfl) (by kernel_rfl) (fun _ _ _ h => h) (Or.inl ⟨by rfl, ?_⟩) (by assumption) ?_
        · intro w hSw; (try dsimp only at hSw); go_simp
        simp only [Act.put, List.setIfInBounds_toArray, List.set_cons_zero, List.set_cons_succ]
        refine wpAnyH_done (by kernel_rfl) ?_ _
        go_wp2_with fail
        go_meet
        exact ⟨E, rfl, rfl, Ef.out, Gf.out, Rf.out, lE, Bf.out⟩
    · go_simp
      have ka6 : Below a0.heap.size a0 (a0.alloc (.cells z0 66)) := (Below.refl _ a0).alloc (Nat.le_refl _) _
      have Ea6 := Lib.hid (heap_alloc_new a0 (.cells z0 66))
      have lE := Za0.out
      obtain ⟨E, hE⟩ : ∃ E, E = a0.heap.size := ⟨_, rfl⟩
      have HEE := Lib.hid hE
      rw [← hE] at Ea6 lE ⊢
      clear hE
      generalize a0.alloc (.cells z0 66) = a6 at *
      have Ba6 := Lib.hid (Ba0.out.trans (ka6.mono (by have := Za0.out; omega)))
      have Ga6 := Lib.hid ((ka6.block N (Sm.lt_of Ga0.out)).trans Ga0.out)
      have Ra6 := Lib.hid ((ka6.block (N + 1) (Sm.lt_of Ra0.out)).trans Ra0.out)
      have Za6 : Hid (N + 2 ≤ a6.heap.size) := by
        show _ ≤ _
        have := ka6.size
        have := Za0.out
        omega
      clear ka6
      refine hK.out _ _ Ga6.out (fun hHeld => ?_)
      clear hK K
      refine wpAnyH_ready (rs := [4]) (by kernel_rfl) (by simp) ?_
      refine (AllReadyH.cons (o := ⟨some 18, _, _, _, _, _⟩) rfl (fun K hK => ?_) AllReadyH.nil)
      go_simp
      refine (KEYC.out _).mono ?_
      rintro e a7 ⟨rfl, ka7⟩
      have Ba7 := Lib.hid (Ba6.out.trans (ka7.mono (by have := Za6.out; omega)))
      have Ga7 := Lib.hid ((ka7.block N (Sm.lt_of Ga6.out)).trans Ga6.out)
      have Ra7 := Lib.hid ((ka7.block (N + 1) (Sm.lt_of Ra6.out)).trans Ra6.out)
      have Za7 : Hid (N + 2 ≤ a7.heap.size) := by
        show _ ≤ _
        have := ka7.size
        have := Za6.out
        omega
      have Ea7 := Lib.hid ((ka7.block E (Sm.lt_of Ea6.out)).trans Ea6.out)
      clear ka7
      refine hK.out _ _ Ga7.out (fun hHeld => ?_)
      clear hK K
      refine wpAnyH_ready (rs := [13]) (by kernel_rfl) (by simp) ?_
      refine (AllReadyH.cons (o := ⟨some 27, _, _, _, _, _⟩) rfl (fun K hK => ?_) AllReadyH.nil)
      go_simp
      refine (CLOSE.out _).mono ?_
      rintro e a8 ⟨rfl, ka8⟩
      have Ba8 := Lib.hid (Ba7.out.trans (ka8.mono (by have := Za7.out; omega)))
      have Ga8 := Lib.hid ((ka8.block N (Sm.lt_of Ga7.out)).trans Ga7.out)
      have Ra8 := Lib.hid ((ka8.block (N + 1) (Sm.lt_of Ra7.out)).trans Ra7.out)
      have Za8 : Hid (N + 2 ≤ a8.heap.size) := by
        show _ ≤ _
        have := ka8.size
        have := Za7.out
        omega
      have Ea8 := Lib.hid ((ka8.block E (Sm.lt_of Ea7.out)).trans Ea7.out)
      clear ka8
      refine hK.out _ _ Ga8.out (fun hHeld => ?_)
      clear hK K
      refine wpAnyH_take (i := 14) (oi := ⟨some 13, _, _, _, _, _⟩) (v := .tuple #[.agg ce.toArray, .int .i64 3]) rfl (by kernel_rfl) (by kernel_rfl) (by kernel_rfl) (fun _ _ _ h => h) (Or.inl ⟨by rfl, ?_⟩) (by assumption) ?_
      · intro w hSw; (try dsimp only at hSw); go_simp
      simp only [Act.put, List.setIfInBounds_toArray, List.set_cons_zero, List.set_cons_succ]
      refine wpAnyH_take (i := 15) (oi := ⟨some 28, _, _, _, _, _⟩) (v := .agg ce.toArray) rfl (by kernel_rfl) (by kernel_rfl) (by kernel_rfl) (fun _ _ _ h => h) (Or.inl ⟨by rfl, ?_⟩) (by assumption) ?_
      · intro w hSw; (try dsimp only at hSw); go_simp
      simp only [Act.put, List.setIfInBounds_toArray, List.set_cons_zero, List.set_cons_succ]
      refine wpAnyH_take (i := 16) (oi := ⟨some 29, _, _, _, _, _⟩) (v := .int .i64 3) rfl (by kernel_rfl) (by kernel_rfl) (by kernel_rfl) (fun _ _ _ h => h) (Or.inl ⟨by rfl, ?_⟩) (by assumption) ?_
      · intro w hSw; (try dsimp only at hSw); go_simp
      simp only [Act.put, List.setIfInBounds_toArray, List.set_cons_zero, List.set_cons_succ]
      refine wpAnyH_ready (rs := [18]) (by kernel_rfl) (by simp) ?_
      refine (AllReadyH.cons (o := ⟨none, _, _, _, _, _⟩) rfl (fun K hK => ?_) AllReadyH.nil)
      rw [if_pos (by simp [Region.wanted])]
      refine wp_store_mid 66 (.tmp 9) (.tmp 28) rfl E 0 ce.toArray rfl rfl (Sm.there_row Ea8.out (by rw [hzs, List.size_toArray, hcel])) (Se.infoEnv (by rw [List.size_toArray, hcel])) hceo ?_
      have Ef := Lib.hid (Sm.heap_setAll (vs := ce) Ea8.out (by rw [hzs, hcel]))
      have Gf := Lib.hid (Sm.other_setCells (vs := ce) (o := 0) (show N ≠ E by omega) Ga8.out)
      have Rf := Lib.hid (Sm.other_setCells (vs := ce) (o := 0) (show N + 1 ≠ E by omega) Ra8.out)
      have Bf := Lib.hid (Ba8.out.grown (Sm.grown_setCells (Sm.grown_refl a8 (some E)) ce 0) (by have := Za8.out; omega) (fun k hk => by cases hk; omega))
      refine hK.out _ _ Gf.out (fun hHeld => ?_)
      clear hK K
      refine wpAnyH_take (i := 19) (oi := ⟨some 10, _, _, _, _, _⟩) (v := .int .i64 3) rfl (by kernel_rfl) (by kernel_rfl) (by kernel_rfl) (fun _ _ _ h => h) (Or.inl ⟨by rfl, ?_⟩) (by assumption) ?_
      · intro w hSw; (try dsimp only at hSw); go_simp
      simp only [Act.put, List.setIfInBounds_toArray, List.set_cons_zero, List.set_cons_succ]
      refine wpAnyH_done (by kernel_rfl) ?_ _
      go_wp2_with fail
      go_meet
      exact ⟨E, rfl, rfl, Ef.out, Gf.out, Rf.out, lE, Bf.out⟩
  case rest =>
    obtain ⟨E, rfl, rfl, he, hg, hr, lE, bl⟩ := hcut
    have HE := Lib.hid he
    have HG := Lib.hid hg
    have HR := Lib.hid hr
    have BL := Lib.hid bl
    clear he hg hr bl B2 G2 R2 Z2 KEYC CLOSE
    have H10 := HG
    have R10 := HR
    have B10 := BL
    clear HE HG HR BL
    go_upto_region 3 with (fail)
    have y0 := Sm.cells_of H10.out 0 _ rfl; have y1 := Sm.cells_of H10.out 1 _ rfl; have y2 := Sm.cells_of H10.out 2 _ rfl; have y3 := Sm.cells_of H10.out 3 _ rfl
    have z0' := Sm.cells_of R10.out 0 _ rfl; have z1' := Sm.cells_of R10.out 1 _ rfl; have z2' := Sm.cells_of R10.out 2 _ rfl; have z3' := Sm.cells_of R10.out 3 _ rfl
    have yf0 := Sm.free_of R10.out 0; have yf1 := Sm.free_of R10.out 1; have yf2 := Sm.free_of R10.out 2; have yf3 := Sm.free_of R10.out 3
    have FIN := Ri.set4 R10.out rfl (.string M) (.int .i64 cur) (.int .u32 (boot : Int)) (.int .u64 (n : Int))
    have BF := Lib.hid (Ri.set4_below B10.out (Nat.le_succ N) (.string M) (.int .i64 cur) (.int .u32 (boot : Int)) (.int .u64 (n : Int)))
    have FI := Lib.hid FIN
    clear FIN H10 R10 B10
    go_wp2
    generalize ((((wc.setCell ⟨N + 1, 0, none⟩ (.string M)).setCell ⟨N + 1, 1, none⟩ (.int .i64 cur)).setCell ⟨N + 1, 2, none⟩ (.int .u32 (boot : Int))).setCell ⟨N + 1, 3, none⟩ (.int .u64 (n : Int))) = wf at *
    clear y0 y1 y2 y3 z0' z1' z2' z3' yf0 yf1 yf2 yf3
    have x0 := Sm.cells_of FI.out 0 _ rfl; have x1 := Sm.cells_of FI.out 1 _ rfl; have x2 := Sm.cells_of FI.out 2 _ rfl; have x3 := Sm.cells_of FI.out 3 _ rfl
    refine bodyPost_ret (v := .tuple #[.agg #[.string M, .int .i64 cur, .int .u32 (boot : Int), .int .u64 (n : Int)], .string ⟨#[]⟩, .int .i64 3]) ((Ri.results_ctt rfl _ _ _).trans (by go_simp)) rfl ⟨rfl, ?_⟩
    rw [← HN.out]; exact BF.out
set_option maxRecDepth 100000 in
set_option maxHeartbeats 4000000 in
theorem r6Open_any (w : World) (M : ByteArray) (hM : M.size ≤ 35184372088832) (cur : Int) (boot n : Nat) (b about : ByteArray) (hbs : b.size ≤ 281474976710656) (ha : about.size ≤ 20000) :
    Calls Tryz.prog 10 #[.agg #[.string M, .int .i64 cur, .int .u32 (boot : Int), .int .u64 (n : Int)], .string b, .string about] w fun e w' => e = .returned (.tuple #[.string ⟨(Ri.opens M.data.toList cur b about.data.toList).1.toArray⟩, .int .i64 (Ri.opens M.data.toList cur b about.data.toList).2]) ∧ Below w.heap.size w w' := by
  have hz1 := (zero_of_info Se.zeroEnv).1
  have hzs : Se.zero.cells.toArray.size = 36 := Se.cells_length _ (by rfl)
  obtain ⟨z0, hz0⟩ : ∃ z, z = Se.zero.cells.toArray := ⟨_, rfl⟩
  rw [← hz0] at hz1 hzs
  obtain ⟨en, hen⟩ : ∃ e, e = (Se.read b).1 := ⟨_, rfl⟩
  obtain ⟨er, her⟩ : ∃ e, e = (Se.read b).2 := ⟨_, rfl⟩
  obtain ⟨ce, hce⟩ : ∃ c, c = en.cells := ⟨_, rfl⟩
  have hok : en.Ok := by
    rw [hen, Se.read]
    split
    · exact Se.got_ok b
    · exact Ri.zero_ok
  have hcel : ce.length = 36 := by rw [hce]; exact Se.cells_length _ hok.tag
  have hceo : ce.toArray.all (·.oneCell') = true := by rw [hce]; exact Se.cells_one _
  have RD : Hid (∀ wx : World, Calls Tryz.prog 26 #[.string b] wx fun e w' => e = .returned (.tuple #[.agg ce.toArray, .int .i64 er]) ∧ Below wx.heap.size wx w') := fun wx => by
    rw [hce, hen, her]; exact r5Read_any wx b hbs
  have HO : Hid (Ri.opens M.data.toList cur b about.data.toList = if er = 0 then (if en.key ≤ cur then Se.opened (Ri.key M.data.toList en.key) en about.data.toList else ([], 20)) else ([], er)) := by
    show _ = _
    rw [hen, her]; rfl
  have hc0 : ce[0]? = some (.int .i64 en.key) := by rw [hce]; rfl
  have HCE := Lib.hid hce
  have hkb := hok.key
  have HOK := Lib.hid hok
  have hst : ∀ wx : World, (storeCells ⟨wx.heap.size, 0, none⟩ ce).run Tryz.prog (wx.alloc (.cells z0 66)) = .ok () (wx.alloc (.cells ce.toArray 66)) := fun wx =>
    run_storeCells_new (P := Tryz.prog) wx 66 z0 _ (Se.infoEnv (by rw [List.size_toArray, hcel])) (by rw [hzs, List.size_toArray, hcel]) hceo
  have b1 : Below w.heap.size w (w.alloc (.cells #[.string M, .int .i64 cur, .int .u32 (boot : Int), .int .u64 (n : Int)] 32)) := (Below.refl _ w).alloc (Nat.le_refl _) _
  have g1 := heap_alloc_new w (.cells #[.string M, .int .i64 cur, .int .u32 (boot : Int), .int .u64 (n : Int)] 32)
  have HS1 : Hid ((w.alloc (.cells #[.string M, .int .i64 cur, .int .u32 (boot : Int), .int .u64 (n : Int)] 32)).heap.size = w.heap.size + 1) := by show _ = _; simp
  obtain ⟨w1, hw1⟩ : ∃ x, x = (w.alloc (.cells #[.string M, .int .i64 cur, .int .u32 (boot : Int), .int .u64 (n : Int)] 32)) := ⟨_, rfl⟩
  have HW1 := Lib.hid hw1
  obtain ⟨N, hN⟩ : ∃ N, N = w.heap.size := ⟨_, rfl⟩
  have HN := Lib.hid hN
  rw [← hw1] at b1 g1 HS1
  rw [← hN] at b1 g1 HS1 ⊢
  have B1 := Lib.hid b1
  have G1 := Lib.hid g1
  rw [HO.out]
  clear hz0 hen her hce hok HO hw1 hN b1 g1
  by_cases h0 : er = 0
  · rw [if_pos h0]
    rw [h0] at RD
    clear h0
    by_cases hk : en.key ≤ cur
    · rw [if_pos hk]
      have hk2 : ¬ cur < en.key := by omega
      obtain ⟨ck, hck⟩ : ∃ c, c = Lib.byteCells (Ri.key M.data.toList en.key) := ⟨_, rfl⟩
      have KEYC : Hid (∀ wx : World, Calls Tryz.prog 17 #[.string M, .int .i64 en.key] wx fun e w' => e = .returned (.agg ck.toArray) ∧ Below wx.heap.size wx w') := fun wx => by
        rw [hck]; exact r6Key_any wx M hM en.key
      obtain ⟨os, hos⟩ : ∃ o : ByteArray, o = ⟨(Se.opened (Ri.key M.data.toList en.key) en about.data.toList).1.toArray⟩ := ⟨_, rfl⟩
      obtain ⟨oe, hoe⟩ : ∃ o : Nat, o = (Se.opened (Ri.key M.data.toList en.key) en about.data.toList).2 := ⟨_, rfl⟩
      have OPEN : Hid (∀ wx : World, Calls Tryz.prog 27 #[.agg ck.toArray, .agg ce.toArray, .string about] wx fun e w' => e = .returned (.tuple #[.string os, .int .i64 oe]) ∧ Below wx.heap.size wx w') := fun wx => by
        rw [hck, HCE.out, hos, hoe]
        exact r5Open_any wx (Ri.key M.data.toList en.key) (Ri.key_length _ _) en HOK.out about ha
      rw [← hos, ← hoe]
      clear hck hos hoe
      go_enter Tryz.func10, Tryz.ntmps10
      go_upto_region 1 with (fail)
      rw [← HW1.out, ← HN.out]
      go_wp2_with fail
      refine (RD.out _).mono ?_
      rintro e w2 ⟨rfl, k2⟩
      have B2 := Lib.hid (B1.out.trans (k2.mono (by have := HS1.out; omega)))
      have G2 := Lib.hid ((k2.block N (Sm.lt_of G1.out)).trans G1.out)
      have Z2 : Hid (N + 1 ≤ w2.heap.size) := by
        show _ ≤ _
        have := k2.size
        have := HS1.out
        omega
      clear k2 RD B1 G1
      have hst2 := hst w2
      clear hst
      go_upto_region 4 with (fail)
      have k3 : Below w2.heap.size w2 (w2.alloc (.cells ce.toArray 66)) := (Below.refl _ w2).alloc (Nat.le_refl _) _
      have E3 := Lib.hid (heap_alloc_new w2 (.cells ce.toArray 66))
      have G3 := Lib.hid ((k3.block N (Sm.lt_of G2.out)).trans G2.out)
      have B3 := Lib.hid (B2.out.trans (k3.mono (by have := Z2.out; omega)))
      have Z3 : Hid (N + 1 ≤ (w2.alloc (.cells ce.toArray 66)).heap.size) := by
        show _ ≤ _
        have := k3.size
        have := Z2.out
        omega
      clear hst2 k3
      obtain ⟨E, hE⟩ : ∃ E, E = w2.heap.size := ⟨_, rfl⟩
      rw [← hE] at E3 ⊢
      clear hE
      generalize w2.alloc (.cells ce.toArray 66) = w3 at *
      clear B2 G2 Z2
      have hc0a : ce.toArray[0]? = some (.int .i64 en.key) := by rw [List.getElem?_toArray]; exact hc0
      have c0 := Sm.cells_of E3.out 0 _ hc0a
      have c1 := Sm.cells_of G3.out 1 _ rfl
      go_upto_region 6 with (fail)
      clear c0 c1
      refine wp_region_held_drew (S := (fun w' => w'.heap[E]? = some (.cells ce.toArray 66 (0, 0)) ∧ w'.heap[N]? = some (.cells #[.string M, .int .i64 cur, .int .u32 (boot : Int), .int .u64 (n : Int)] 32 (0, 0)))) (by kernel_rfl) ⟨E3.out, G3.out⟩ (fun hHeld => ?_)
      have B4 : Hid (Below N w w3.drew) := B3.out.drew
      have E4 : Hid (w3.drew.heap[E]? = some (.cells ce.toArray 66 (0, 0))) := E3.out
      have G4 : Hid (w3.drew.heap[N]? = some (.cells #[.string M, .int .i64 cur, .int .u32 (boot : Int), .int .u64 (n : Int)] 32 (0, 0))) := G3.out
      have Z4 : Hid (N + 1 ≤ w3.drew.heap.size) := Z3.out
      generalize w3.drew = w4 at *
      refine wpAnyH_take (i := 0) (oi := ⟨some 23, _, _, _, _, _⟩) (v := .pointer (some ⟨N, 0, none⟩)) rfl (by kernel_rfl) (by kernel_rfl) (by kernel_rfl) (fun _ _ _ h => h) (Or.inl ⟨by rfl, ?_⟩) (by assumption) ?_
      · intro w hSw; (try dsimp only at hSw); go_simp
      simp only [Act.put, List.setIfInBounds_toArray, List.set_cons_zero, List.set_cons_succ]
      refine wpAnyH_take (i := 1) (oi := ⟨some 24, _, _, _, _, _⟩) (v := .string M) rfl (by kernel_rfl) (by kernel_rfl) (by kernel_rfl) (fun _ _ _ h => h) (Or.inl ⟨by rfl, ?_⟩) (by assumption) ?_
      · intro w hSw; (try dsimp only at hSw); have c := Sm.cells_of hSw.2 0 _ rfl; go_simp
      simp only [Act.put, List.setIfInBounds_toArray, List.set_cons_zero, List.set_cons_succ]
      refine wpAnyH_take (i := 2) (oi := ⟨some 25, _, _, _, _, _⟩) (v := .pointer (some ⟨E, 0, none⟩)) rfl (by kernel_rfl) (by kernel_rfl) (by kernel_rfl) (fun _ _ _ h => h) (Or.inl ⟨by rfl, ?_⟩) (by assumption) ?_
      · intro w hSw; (try dsimp only at hSw); go_simp
      simp only [Act.put, List.setIfInBounds_toArray, List.set_cons_zero, List.set_cons_succ]
      refine wpAnyH_take (i := 3) (oi := ⟨some 26, _, _, _, _, _⟩) (v := .int .i64 en.key) rfl (by kernel_rfl) (by kernel_rfl) (by kernel_rfl) (fun _ _ _ h => h) (Or.inl ⟨by rfl, ?_⟩) (by assumption) ?_
      · intro w hSw; (try dsimp only at hSw); have c := Sm.cells_of hSw.1 0 _ hc0a; go_simp
      simp only [Act.put, List.setIfInBounds_toArray, List.set_cons_zero, List.set_cons_succ]
      refine wpAnyH_take (i := 5) (oi := ⟨some 28, _, _, _, _, _⟩) (v := .agg ce.toArray) rfl (by kernel_rfl) (by kernel_rfl) (by kernel_rfl) (fun _ _ _ h => h) (yieldsIf_load_mid (by rfl) _ _ rfl _ _ rfl ce _ (fun w hS => Sm.range_row hS.1) Tryz.underlying66 rfl (Se.infoEnv2 hcel)) (by assumption) ?_
      simp only [Act.put, List.setIfInBounds_toArray, List.set_cons_zero, List.set_cons_succ]
      refine wpAnyH_take (i := 6) (oi := ⟨some 29, _, _, _, _, _⟩) (v := .string about) rfl (by kernel_rfl) (by kernel_rfl) (by kernel_rfl) (fun _ _ _ h => h) (Or.inl ⟨by rfl, ?_⟩) (by assumption) ?_
      · intro w hSw; (try dsimp only at hSw); go_simp
      simp only [Act.put, List.setIfInBounds_toArray, List.set_cons_zero, List.set_cons_succ]
      refine wpAnyH_ready (rs := [4]) (by kernel_rfl) (by simp) ?_
      refine (AllReadyH.cons (o := ⟨some 27, _, _, _, _, _⟩) rfl (fun K hK => ?_) AllReadyH.nil)
      go_simp
      refine (KEYC.out _).mono ?_
      rintro e w5 ⟨rfl, k5⟩
      have B5 := Lib.hid (B4.out.trans (k5.mono (by have := Z4.out; omega)))
      have G5 := Lib.hid ((k5.block N (Sm.lt_of G4.out)).trans G4.out)
      have E5 := Lib.hid ((k5.block E (Sm.lt_of E4.out)).trans E4.out)
      have Z5 : Hid (N + 1 ≤ w5.heap.size) := by
        show _ ≤ _
        have := k5.size
        have := Z4.out
        omega
      clear k5
      refine hK.out _ _ ⟨E5.out, G5.out⟩ (fun hHeld => ?_)
      clear hK K
      refine wpAnyH_ready (rs := [7]) (by kernel_rfl) (by simp) ?_
      refine (AllReadyH.cons (o := ⟨some 30, _, _, _, _, _⟩) rfl (fun K hK => ?_) AllReadyH.nil)
      go_simp
      refine (OPEN.out _).mono ?_
      rintro e w6 ⟨rfl, k6⟩
      have B6 := Lib.hid (B5.out.trans (k6.mono (by have := Z5.out; omega)))
      have G6 := Lib.hid ((k6.block N (Sm.lt_of G5.out)).trans G5.out)
      have E6 := Lib.hid ((k6.block E (Sm.lt_of E5.out)).trans E5.out)
      have Z6 : Hid (N + 1 ≤ w6.heap.size) := by
        show _ ≤ _
        have := k6.size
        have := Z5.out
        omega
      clear k6
      refine hK.out _ _ ⟨E6.out, G6.out⟩ (fun hHeld => ?_)
      clear hK K
      refine wpAnyH_take (i := 8) (oi := ⟨some 31, _, _, _, _, _⟩) (v := .string os) rfl (by kernel_rfl) (by kernel_rfl) (by kernel_rfl) (fun _ _ _ h => h) (Or.inl ⟨by rfl, ?_⟩) (by assumption) ?_
      · intro w hSw; (try dsimp only at hSw); go_simp
      simp only [Act.put, List.setIfInBounds_toArray, List.set_cons_zero, List.set_cons_succ]
      refine wpAnyH_take (i := 9) (oi := ⟨some 32, _, _, _, _, _⟩) (v := .int .i64 oe) rfl (by kernel_rfl) (by kernel_rfl) (by kernel_rfl) (fun _ _ _ h => h) (Or.inl ⟨by rfl, ?_⟩) (by assumption) ?_
      · intro w hSw; (try dsimp only at hSw); go_simp
      simp only [Act.put, List.setIfInBounds_toArray, List.set_cons_zero, List.set_cons_succ]
      refine wpAnyH_take (i := 10) (oi := ⟨some 6, _, _, _, _, _⟩) (v := .string os) rfl (by kernel_rfl) (by kernel_rfl) (by kernel_rfl) (fun _ _ _ h => h) (Or.inl ⟨by rfl, ?_⟩) (by assumption) ?_
      · intro w hSw; (try dsimp only at hSw); go_simp
      simp only [Act.put, List.setIfInBounds_toArray, List.set_cons_zero, List.set_cons_succ]
      refine wpAnyH_take (i := 11) (oi := ⟨some 7, _, _, _, _, _⟩) (v := .int .i64 oe) rfl (by kernel_rfl) (by kernel_rfl) (by kernel_rfl) (fun _ _ _ h => h) (Or.inl ⟨by rfl, ?_⟩) (by assumption) ?_
      · intro w hSw; (try dsimp only at hSw); go_simp
      simp only [Act.put, List.setIfInBounds_toArray, List.set_cons_zero, List.set_cons_succ]
      refine wpAnyH_done (by kernel_rfl) ?_ _
      go_wp2_with fail
      refine bodyPost_ret (results_tmp2 rfl _ _ _) rfl ?_
      exact ⟨rfl, B6.out⟩
    · rw [if_neg hk]
      have hk2 : cur < en.key := by omega
      go_enter Tryz.func10, Tryz.ntmps10
      go_upto_region 1 with (fail)
      rw [← HW1.out, ← HN.out]
      go_wp2_with fail
      refine (RD.out _).mono ?_
      rintro e w2 ⟨rfl, k2⟩
      have B2 := Lib.hid (B1.out.trans (k2.mono (by have := HS1.out; omega)))
      have G2 := Lib.hid ((k2.block N (Sm.lt_of G1.out)).trans G1.out)
      have Z2 : Hid (N + 1 ≤ w2.heap.size) := by
        show _ ≤ _
        have := k2.size
        have := HS1.out
        omega
      clear k2 RD B1 G1
      have hst2 := hst w2
      clear hst
      go_upto_region 4 with (fail)
      have k3 : Below w2.heap.size w2 (w2.alloc (.cells ce.toArray 66)) := (Below.refl _ w2).alloc (Nat.le_refl _) _
      have E3 := Lib.hid (heap_alloc_new w2 (.cells ce.toArray 66))
      have G3 := Lib.hid ((k3.block N (Sm.lt_of G2.out)).trans G2.out)
      have B3 := Lib.hid (B2.out.trans (k3.mono (by have := Z2.out; omega)))
      have Z3 : Hid (N + 1 ≤ (w2.alloc (.cells ce.toArray 66)).heap.size) := by
        show _ ≤ _
        have := k3.size
        have := Z2.out
        omega
      clear hst2 k3
      obtain ⟨E, hE⟩ : ∃ E, E = w2.heap.size := ⟨_, rfl⟩
      rw [← hE] at E3 ⊢
      clear hE
      generalize w2.alloc (.cells ce.toArray 66) = w3 at *
      clear B2 G2 Z2
      have hc0a : ce.toArray[0]? = some (.int .i64 en.key) := by rw [List.getElem?_toArray]; exact hc0
      have c0 := Sm.cells_of E3.out 0 _ hc0a
      have c1 := Sm.cells_of G3.out 1 _ rfl
      go_wp2_with fail
      refine bodyPost_ret (results_tmp2 rfl _ _ _) rfl ?_
      exact ⟨rfl, B3.out⟩
  · rw [if_neg h0]
    have h1 : ((er : Int) != 0) = true := by
      rw [bne_iff_ne]; omega
    go_enter Tryz.func10, Tryz.ntmps10
    go_upto_region 1 with (fail)
    rw [← HW1.out, ← HN.out]
    go_wp2_with fail
    refine (RD.out _).mono ?_
    rintro e w2 ⟨rfl, k2⟩
    have B2 := Lib.hid (B1.out.trans (k2.mono (by have := HS1.out; omega)))
    have G2 := Lib.hid ((k2.block N (Sm.lt_of G1.out)).trans G1.out)
    have Z2 : Hid (N + 1 ≤ w2.heap.size) := by
      show _ ≤ _
      have := k2.size
      have := HS1.out
      omega
    clear k2 RD B1 G1
    have hst2 := hst w2
    clear hst
    go_wp2_with fail
    refine bodyPost_ret (results_tmp2 rfl _ _ _) rfl ?_
    exact ⟨rfl, B2.out.alloc (by have := Z2.out; omega) _⟩
end Go.Proofs.YtibpgmcpcelmpaaGreatDoor
