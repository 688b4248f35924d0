/-
  The wake that each statement on batches asks is met.
-/
import Derived.Test.YtlndggbidmmodaaBaRead
import Derived.Test.YtlndggbidmmodaaBaEq
import Derived.Test.YtlndggbidmmodaaPaAwake
namespace Go.Proofs.Ytlndggbidmmodaa
open Go.RowKit Pk
namespace Ba
def tKey : ByteArray := ⟨#[97, 112, 112, 47, 97]⟩
def tVal : ByteArray := ⟨#[49]⟩
def put1 : Op := ⟨1, tKey, tVal⟩
def one : Bt := ⟨1, 2, [put1]⟩
def oneS : ByteArray := ⟨#[1, 2, 1, 1, 5, 97, 112, 112, 47, 97, 1, 49]⟩
theorem one_ok : one.Ok := ⟨by decide, by decide, fun o ho => by rw [List.mem_singleton.1 ho]; exact ⟨by decide, by decide, by decide⟩, by decide⟩
theorem key_ok : Pa.ok tKey.data.toList = true := by kernel_rfl
theorem put1_bars : bars put1 = 0 := bars_of (.inl rfl) key_ok (by decide) (by intro h; exact absurd h (by decide))
theorem one_right : right one = 0 := right_of (by decide) (by decide) (by decide) (fun o ho => by rw [List.mem_singleton.1 ho]; exact put1_bars)
theorem one_bytes : bytes one = oneS.data.toList := by
  unfold bytes one opsB opsB opB put1 Rm.txt
  simp only [List.length_cons, List.length_nil, ba_size]
  rw [show tKey.size = 5 from rfl, show tVal.size = 1 from rfl]
  simp only [enc_small (n := 1) (by decide), enc_small (n := 5) (by decide), show (1 : Int).toNat = 1 from rfl, show (2 : Int).toNat = 2 from rfl, enc_small (n := 2) (by decide)]
  rfl
theorem one_smalls : smalls one.ops := fun o ho => by rw [List.mem_singleton.1 ho]; exact ⟨by decide, by decide, by decide⟩
theorem one_spelled : spelled one = (oneS.data.toList, 0) := by unfold spelled; rw [one_right, if_pos rfl, one_bytes]
theorem one_read : read oneS = (one, 0) := by
  have h := read_bytes one_right (by decide)
  rw [one_bytes, ba_eq] at h
  exact h
theorem name_key : Pa.nameOf tKey.data.toList = Pa.tApp := by kernel_rfl
theorem key_of : Pa.of3 Pa.twoL tKey.data.toList = (Pa.tApp, true, 0) := by
  have h3 : Pa.first Pa.tApp Pa.twoL = some ⟨Pa.tApp, true⟩ := by unfold Pa.twoL; rw [Pa.first, Pa.same_iff.2 rfl, if_pos rfl]
  rw [Pa.of_some key_ok (by rw [name_key]; exact h3), name_key]
theorem one_may : mayE Pa.twoL one.ops = 0 := by
  unfold mayE
  rw [if_neg (by decide), if_neg (by decide)]
  show R12.may Pa.twoL [put1] = 0
  unfold R12.may R12.may
  rw [if_neg (by decide)]
  show (if (Pa.of3 Pa.twoL tKey.data.toList).2.2 ≠ 0 then _ else _) = 0
  rw [key_of, if_neg (by decide), if_neg (by decide)]
theorem row_three {w : World} {P : Nat} {a b c : Value} {t : TypeId} (h : w.heap[P]? = some (.cells #[a, b, c] t (0, 0))) : w.cell? ⟨P, 0, none⟩ = some a ∧ w.cell? ⟨P, 1, none⟩ = some b ∧ w.cell? ⟨P, 2, none⟩ = some c := ⟨Sm.cells_of h 0 _ rfl, Sm.cells_of h 1 _ rfl, Sm.cells_of h 2 _ rfl⟩
end Ba
set_option maxRecDepth 100000 in
theorem two12_any (w : World) : Calls Try.prog 27 #[] w fun e w' => (∃ A, e = .returned (.slice A 2 2) ∧ Pa.listAt w' A Pa.twoL) ∧ Below w.heap.size w w' := by
  have g := heap_alloc_new w (.cells #[.string ⟨#[97, 112, 112]⟩, .bool true, .string ⟨#[111, 112, 115]⟩, .bool false] 55)
  go_enter Try.func27, Try.ntmps27
  go_wp2
  go_ret
  refine ⟨⟨_, rfl, .inr ⟨w.heap.size, 0, rfl, Sm.lt_of g, fun k hk => ?_⟩⟩, (Below.refl _ w).alloc (Nat.le_refl _) _⟩
  have hk2 : k < 2 := hk
  obtain rfl | rfl : k = 0 ∨ k = 1 := by omega
  · exact ⟨Sm.cells_of g 0 _ rfl, Sm.cells_of g 1 _ rfl⟩
  · exact ⟨Sm.cells_of g 2 _ rfl, Sm.cells_of g 3 _ rfl⟩
theorem results_own1 {fn : Func} {p : Tmp} {ty : TypeId} (h : fn.results = #[.cell p ty]) (tmps : Array Value) (P : Program) (w : World) :
    (results fn tmps).run P w = ((asAddr (tmps.getD p undef)).run P w).andThen fun a w₁ => (loadVar ty a).run P w₁ := by
  simp only [results, h]
  simp [Sem.run_bind, Result.andThen]
set_option maxRecDepth 100000 in
set_option maxHeartbeats 2000000 in
theorem one12_any (w : World) : Calls Try.prog 28 #[] w fun e w' => (∃ A, e = .returned (.agg #[.int .i64 1, .int .i64 2, .slice A 1 1]) ∧ Ba.listAt w' A Ba.one.ops) ∧ Below w.heap.size w w' := by
  have hs1 : (w.alloc (.cells #[.int .i64 1, .int .i64 2, .slice (some ⟨w.heap.size + 1, 0, none⟩) 1 1] 31)).heap.size = w.heap.size + 1 := by simp
  have g1 := heap_alloc_new w (.cells #[.int .i64 1, .int .i64 2, .slice (some ⟨w.heap.size + 1, 0, none⟩) 1 1] 31)
  have g2 := heap_alloc_new (w.alloc (.cells #[.int .i64 1, .int .i64 2, .slice (some ⟨w.heap.size + 1, 0, none⟩) 1 1] 31)) (.cells #[.int .u8 1, .string ⟨#[97, 112, 112, 47, 97]⟩, .string ⟨#[49]⟩] 37)
  have g3 := (Below.heap_alloc _ (.cells #[.int .u8 1, .string ⟨#[97, 112, 112, 47, 97]⟩, .string ⟨#[49]⟩] 37) _ (Sm.lt_of g1)).trans g1
  rw [hs1] at g2
  have b2 : Below w.heap.size w ((w.alloc (.cells #[.int .i64 1, .int .i64 2, .slice (some ⟨w.heap.size + 1, 0, none⟩) 1 1] 31)).alloc (.cells #[.int .u8 1, .string ⟨#[97, 112, 112, 47, 97]⟩, .string ⟨#[49]⟩] 37)) := ((Below.refl _ w).alloc (Nat.le_refl _) _).alloc (by simp) _
  have L0 : Hid (Ba.listAt ((w.alloc (.cells #[.int .i64 1, .int .i64 2, .slice (some ⟨w.heap.size + 1, 0, none⟩) 1 1] 31)).alloc (.cells #[.int .u8 1, .string ⟨#[97, 112, 112, 47, 97]⟩, .string ⟨#[49]⟩] 37)) (some ⟨w.heap.size + 1, 0, none⟩) Ba.one.ops) := .inr ⟨w.heap.size + 1, 0, rfl, Sm.lt_of g2, fun k hk => by
    have hk1 : k < 1 := hk
    obtain rfl : k = 0 := by omega
    exact ⟨Sm.cells_of g2 0 _ rfl, Sm.cells_of g2 1 _ rfl, Sm.cells_of g2 2 _ rfl⟩⟩
  have B2 := Lib.hid b2
  have x0 := Sm.cells_of g3 0 _ rfl
  have x1 := Sm.cells_of g3 1 _ rfl
  have x2 := Sm.cells_of g3 2 _ rfl
  clear g1 g2 g3 b2 hs1
  go_enter Try.func28, Try.ntmps28
  go_wp2
  refine bodyPost_ret (v := .agg #[.int .i64 1, .int .i64 2, .slice (some ⟨w.heap.size + 1, 0, none⟩) 1 1]) ((results_own1 rfl _ _ _).trans (by go_simp)) rfl ⟨⟨_, rfl, L0.out⟩, B2.out⟩
set_option maxRecDepth 100000 in
set_option maxHeartbeats 4000000 in
theorem awake12_any (w : World) : Calls Try.prog 13 #[] w fun e w' => e = .returned (.bool true) ∧ Below w.heap.size w w' := by
  have ON := Lib.hid (fun wx => one12_any wx)
  have TW := Lib.hid (fun wx => two12_any wx)
  have BY : Hid (∀ (wx : World) (A : Option Addr), Ba.listAt wx A Ba.one.ops → Calls Try.prog 16 #[.agg #[.int .i64 1, .int .i64 2, .slice A 1 1]] wx fun e w' => e = .returned (.tuple #[.string ⟨#[1, 2, 1, 1, 5, 97, 112, 112, 47, 97, 1, 49]⟩, .int .i64 0]) ∧ Below wx.heap.size wx w') := fun wx A h => by
    have := baBytes_any Ba.one 1 h Ba.one_ok Ba.one_smalls
    rw [Ba.one_spelled] at this
    exact this
  have RE : Hid (∀ (wx : World), Calls Try.prog 23 #[.string ⟨#[1, 2, 1, 1, 5, 97, 112, 112, 47, 97, 1, 49]⟩] wx fun e w' => ∃ A c, e = .returned (.tuple #[.agg #[.int .i64 1, .int .i64 2, .slice A 1 c], .int .i64 0]) ∧ Ba.listAt w' A Ba.one.ops ∧ Below wx.heap.size wx w') := fun wx => by
    have := baRead_any wx Ba.oneS (by decide)
    rw [Ba.one_read] at this
    exact this
  have SA : Hid (∀ (wx : World) (A C : Option Addr) (c : Nat), Ba.listAt wx A Ba.one.ops → Ba.listAt wx C Ba.one.ops → Calls Try.prog 21 #[.agg #[.int .i64 1, .int .i64 2, .slice A 1 c], .agg #[.int .i64 1, .int .i64 2, .slice C 1 1]] wx fun e w' => e = .returned (.bool true) ∧ Below wx.heap.size wx w') := fun wx A C c h1 h2 => baSame_any Ba.one Ba.one c 1 h1 h2 (by decide) true (by simp)
  have MA : Hid (∀ (wx : World) (A C : Option Addr) (c : Nat), Pa.listAt wx A Pa.twoL → Ba.listAt wx C Ba.one.ops → Calls Try.prog 14 #[.slice A 2 2, .slice C 1 c] wx fun e w' => e = .returned (.int .i64 0) ∧ Below wx.heap.size wx w') := fun wx A C c h1 h2 => by
    have := baMay_any 2 h1 (by decide) c h2 (by decide) (fun o ho => by rw [List.mem_singleton.1 ho]; decide)
    rw [Ba.one_may] at this
    exact this
  go_enter Try.func13, Try.ntmps13
  go_wp2_with fail
  refine (ON.out _).mono ?_
  rintro e w1 ⟨⟨A, rfl, h1⟩, b1⟩
  go_wp2_with fail
  refine (BY.out _ _ h1).mono ?_
  rintro e w2 ⟨rfl, b2⟩
  go_wp2_with fail
  refine (RE.out _).mono ?_
  rintro e w3 ⟨A3, c3, rfl, h3, b3⟩
  have B3 := Lib.hid (b1.trans ((b2.trans (b3.mono b2.size)).mono b1.size))
  have z0 : (w3.alloc (.cells #[.int .i64 0, .int .i64 0, .slice none 0 0] 31)).frozen? ⟨w3.heap.size, 0, none⟩ = false := Sm.free_of (heap_alloc_new w3 _) 0
  have gl := heap_alloc_new w3 (.cells #[.int .i64 1, .int .i64 2, .slice A3 1 c3] 31)
  have b34 : Below w3.heap.size w3 (w3.alloc (.cells #[.int .i64 1, .int .i64 2, .slice A3 1 c3] 31)) := (Below.refl _ w3).alloc (Nat.le_refl _) _
  have h4 := h3.below b34
  have B4 := Lib.hid (B3.out.trans (b34.mono B3.out.size))
  clear h1 b1 b2 h3 b3 B3 b34
  go_upto_region 3 with (fail)
  obtain ⟨P, hP⟩ : ∃ P, P = w3.heap.size := ⟨_, rfl⟩
  rw [← hP] at gl ⊢
  clear hP z0
  generalize w3.alloc (.cells #[.int .i64 1, .int .i64 2, .slice A3 1 c3] 31) = w4 at *
  have G4 : Hid (w4.drew.heap[P]? = some (.cells #[.int .i64 1, .int .i64 2, .slice A3 1 c3] 31 (0, 0))) := gl
  have H4 : Hid (Ba.listAt w4.drew A3 Ba.one.ops) := h4
  have B4 : Hid (Below w.heap.size w w4.drew) := B4.out.drew
  clear gl h4
  go_region_held3 (fun w' => w'.cell? ⟨P, 0, none⟩ = some (.int .i64 1) ∧ w'.cell? ⟨P, 1, none⟩ = some (.int .i64 2) ∧ w'.cell? ⟨P, 2, none⟩ = some (.slice A3 1 c3))
    (first | (with_reducible exact Ba.row_three G4.out) | (with_reducible exact Ba.row_three G5.out) | (with_reducible exact Ba.row_three G6.out) | (with_reducible exact Ba.row_three G7.out) | (with_reducible exact Ba.row_three G8.out))
    ((first
      | (go_at_call 28; refine (ON.out _).mono ?_; rintro e w5 ⟨⟨A5, rfl, h5⟩, k5⟩; have G5 := Lib.hid ((k5.block P (Sm.lt_of G4.out)).trans G4.out); have H5 := Lib.hid (H4.out.below k5); have J5 := Lib.hid h5; have B5 := Lib.hid (B4.out.trans (k5.mono B4.out.size)); clear h5 k5)
      | (go_at_call 21; refine (SA.out _ _ _ _ H5.out J5.out).mono ?_; rintro e w6 ⟨rfl, k6⟩; have G6 := Lib.hid ((k6.block P (Sm.lt_of G5.out)).trans G5.out); have H6 := Lib.hid (H5.out.below k6); have B6 := Lib.hid (B5.out.trans (k6.mono B5.out.size)); clear k6)
      | (go_at_call 27; refine (TW.out _).mono ?_; rintro e w7 ⟨⟨A7, rfl, h7⟩, k7⟩; have G7 := Lib.hid ((k7.block P (Sm.lt_of G6.out)).trans G6.out); have H7 := Lib.hid (H6.out.below k7); have J7 := Lib.hid h7; have B7 := Lib.hid (B6.out.trans (k7.mono B6.out.size)); clear h7 k7)
      | (go_at_call 14; refine (MA.out _ _ _ _ J7.out H7.out).mono ?_; rintro e w8 ⟨rfl, k8⟩; have G8 := Lib.hid ((k8.block P (Sm.lt_of G7.out)).trans G7.out); have B8 := Lib.hid (B7.out.trans (k8.mono B7.out.size)); clear k8)))
  go_wp2
  go_ret
  exact ⟨rfl, B8.out⟩
end Go.Proofs.Ytlndggbidmmodaa
