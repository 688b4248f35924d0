/-
  BatchKnown.
-/
import Derived.Test.YtlndggbidmmodaaBaKn17
import Derived.Test.YtlndggbidmmodaaShelf
namespace Go.Proofs.Ytlndggbidmmodaa
open Go.RowKit Pk
set_option maxRecDepth 100000 in
set_option maxHeartbeats 4000000 in
theorem batchknown_any (w : World) :
    Calls Try.prog 10 #[] w fun e w' => e = .returned (.bool true) ∧ Below w.heap.size w w' := by
  have AW := Lib.hid (fun wx => awake12_any wx)
  have TW := Lib.hid (fun wx => two12_any wx)
  obtain ⟨t, ht, hts⟩ : ∃ t : ByteArray, t = ⟨(Lib.repeatL [118] 33).toArray⟩ ∧ t.size = 33 := ⟨_, rfl, rfl⟩
  have RP : Hid (∀ wx : World, Calls Try.prog 26 #[.string ⟨#[118]⟩, .int .i64 33] wx fun e w' => e = .returned (.string t) ∧ Below wx.heap.size wx w') := fun wx => by rw [ht]; exact strings_Repeat ⟨#[118]⟩ 33 wx (by decide) (by show 1 * 33 ≤ _; decide)
  have MA : Hid (∀ (wx : World) (A C : Option Addr) (j : Nat) (hj : j < (Ba.tab t).length), Pa.listAt wx A Pa.twoL → Ba.listAt wx C (Ba.tab t)[j].1 → Calls Try.prog 14 #[.slice A 2 2, .slice C (Ba.tab t)[j].1.length (Ba.tab t)[j].1.length] wx fun e w' => e = .returned (.int .i64 (Ba.tab t)[j].2) ∧ Below wx.heap.size wx w') := fun wx A C j hj h1 h2 => by
    have := baMay_any 2 h1 (by decide) (Ba.tab t)[j].1.length h2 (by have := (Ba.tab_small t j hj).1; omega) (fun o ho => (Ba.tab_small t j hj).2 o ho)
    rw [Ba.tab_may t hts j hj] at this
    exact this
  have g1 := heap_alloc_new w (.cells #[.int .u8 1, .string ⟨#[97, 112, 112, 47, 97]⟩, .string ⟨#[49]⟩] 37)
  have b1 : Below w.heap.size w (w.alloc (.cells #[.int .u8 1, .string ⟨#[97, 112, 112, 47, 97]⟩, .string ⟨#[49]⟩] 37)) := (Below.refl _ w).alloc (Nat.le_refl _) _
  have G1 := Lib.hid g1
  have B1 := Lib.hid b1
  clear ht g1 b1
  go_enter Try.func10, Try.ntmps10
  go_wp2_with fail
  refine (RP.out _).mono ?_
  rintro e w2 ⟨rfl, b2⟩
  have n1 := Sm.lt_of G1.out
  have B2 := Lib.hid (B1.out.trans (b2.mono (Nat.le_of_lt n1)))
  have G2 := Lib.hid ((b2.block _ n1).trans G1.out)
  have N2 := Lib.hid (Nat.lt_of_lt_of_le n1 b2.size)
  clear b2 n1 B1 G1 RP
  go_upto_region 3 with (fail)
  refine Ba.region_of Ba.kn3 (by kernel_rfl) ?_
  refine Ba.kn_any w.heap.size t hts w w2 B2.out N2.out G2.out ?_
  clear B2 G2 N2
  intro v w3 b b3 n3 g3 h42 hb3 hT
  unfold Ba.knF
  rw [h42]
  have B3 := Lib.hid b3
  have G3 : Hid (w3.heap[w.heap.size]? = some (.cells #[.int .u8 1, .string ⟨#[97, 112, 112, 47, 97]⟩, .string ⟨#[49]⟩] 37 (0, 0))) := g3
  have N3 := Lib.hid n3
  have T3 := Lib.hid hT
  have D3 := Lib.hid hb3
  clear b3 g3 n3 h42 hb3 hT
  obtain ⟨N, hN⟩ : ∃ N, N = w.heap.size := ⟨_, rfl⟩
  rw [← hN] at B3 G3 N3 ⊢
  have HN := Lib.hid hN
  clear hN
  go_wp2
  go_loopw [4] (fun s4 wr => ∃ k : Nat, s4 = .int .i64 k ∧ k ≤ 11 ∧ Below w3.heap.size w3 wr) (fun s4 _ => 11 - (intOf s4).toNat)
  case atStart => exact ⟨0, rfl, by omega, Below.refl _ w3⟩
  case round =>
    obtain ⟨k, rfl, hk, hb⟩ := hrel
    by_cases hlt : k < 11
    · have hki : (k : Int) < 11 := by omega
      have hsuc : IntKind.i64.wrap ((k : Int) + 1) = ((k + 1 : Nat) : Int) := by simp [IntKind.wrap, IntKind.bits, IntKind.signed]; omega
      have hlen : k < (Ba.tab t).length := hlt
      obtain ⟨A, c0, c1, lA⟩ := T3.out k hlen
      have C0 : Hid (wr.drew.cell? ⟨b, k * 2, none⟩ = some (.slice A (Ba.tab t)[k].1.length (Ba.tab t)[k].1.length)) := (hb.drew.cell (p := ⟨b, k * 2, none⟩) D3.out).trans c0
      have C1 : Hid (wr.drew.cell? ⟨b, k * 2 + 1, none⟩ = some (.int .i64 (Ba.tab t)[k].2)) := (hb.drew.cell (p := ⟨b, k * 2 + 1, none⟩) D3.out).trans c1
      have LA := Lib.hid (lA.below hb.drew)
      have MK := Lib.hid (fun wx A C => MA.out wx A C k hlen)
      have DB : Hid (b < wr.drew.heap.size) := Nat.lt_of_lt_of_le D3.out hb.size
      clear c0 c1 lA MA
      obtain ⟨n, hn⟩ : ∃ n, n = (Ba.tab t)[k].1.length := ⟨_, rfl⟩
      obtain ⟨E, hE⟩ : ∃ E, E = (Ba.tab t)[k].2 := ⟨_, rfl⟩
      obtain ⟨L, hL⟩ : ∃ L, L = (Ba.tab t)[k].1 := ⟨_, rfl⟩
      rw [← hn] at C0 MK
      rw [← hE] at C1 MK
      rw [← hL] at LA MK
      have HB := Lib.hid hb
      clear hn hE hL hb
      --A
      go_upto_region 7 with (fail)
      have HB4 : Hid (Below w3.heap.size w3 wr.drew) := HB.out.drew
      clear HB
      have hne : ((E : Int) != E) = false := by simp
      go_region_held3 (fun w' => w'.cell? ⟨b, k * 2, none⟩ = some (.slice A n n) ∧ w'.cell? ⟨b, k * 2 + 1, none⟩ = some (.int .i64 E))
        (first | (with_reducible exact ⟨C0.out, C1.out⟩) | (with_reducible exact ⟨C5.out, C15.out⟩) | (with_reducible exact ⟨C6.out, C16.out⟩))
        ((first
          | (go_at_call 27; refine (TW.out _).mono ?_; rintro e w5 ⟨⟨A5, rfl, h5⟩, k5⟩; have C5 := Lib.hid ((k5.cell (p := ⟨b, k * 2, none⟩) DB.out).trans C0.out); have C15 := Lib.hid ((k5.cell (p := ⟨b, k * 2 + 1, none⟩) DB.out).trans C1.out); have L5 := Lib.hid (LA.out.below k5); have M5 := Lib.hid h5; have DB5 := Lib.hid (Nat.lt_of_lt_of_le DB.out k5.size); have B5 := Lib.hid (HB4.out.trans (k5.mono HB4.out.size)); clear h5 k5)
          | (go_at_call 14; refine (MK.out _ _ _ M5.out L5.out).mono ?_; rintro e w6 ⟨rfl, k6⟩; have C6 := Lib.hid ((k6.cell (p := ⟨b, k * 2, none⟩) DB5.out).trans C5.out); have C16 := Lib.hid ((k6.cell (p := ⟨b, k * 2 + 1, none⟩) DB5.out).trans C15.out); have B6 := Lib.hid (B5.out.trans (k6.mono B5.out.size)); clear k6)))
      go_wp2_with fail
      go_roundw
      case rel => exact ⟨k + 1, rfl, by omega, B6.out⟩
      case measure => simp only [intOf]; omega
    · have hki : ¬ (k : Int) < 11 := by omega
      clear T3 MA D3
      have G4 := Lib.hid ((hb.block _ N3.out).trans G3.out)
      have B4 := Lib.hid (B3.out.trans (hb.mono (Nat.le_of_lt N3.out)))
      have N4 := Lib.hid (Nat.lt_of_lt_of_le N3.out hb.size)
      clear hb G3 B3 N3
      obtain ⟨W, hW⟩ : ∃ W, W = wr.alloc (.cells #[.string ⟨#[1, 2, 1, 1, 5, 97, 112, 112, 47, 97, 1, 49]⟩, .int .i64 0, .string ⟨#[1, 2, 1, 1, 5, 97, 112, 112, 47, 97, 1, 49, 120]⟩, .int .i64 8, .string ⟨#[]⟩, .int .i64 7, .string ⟨#[0, 2, 0]⟩, .int .i64 1, .string ⟨#[1, 2, 5]⟩, .int .i64 8, .string ⟨#[1, 2, 1, 3]⟩, .int .i64 10, .string ⟨#[1, 2, 1, 2, 3, 97, 112, 112]⟩, .int .i64 20, .string ⟨#[1, 2, 0]⟩, .int .i64 0, .string ⟨#[1, 2, 1, 2, 34]⟩, .int .i64 8, .string ⟨#[129, 0, 2, 0]⟩, .int .i64 8] 51) := ⟨_, rfl⟩
      obtain ⟨P, hP⟩ : ∃ P, P = wr.heap.size := ⟨_, rfl⟩
      have gP := heap_alloc_new wr (.cells #[.string ⟨#[1, 2, 1, 1, 5, 97, 112, 112, 47, 97, 1, 49]⟩, .int .i64 0, .string ⟨#[1, 2, 1, 1, 5, 97, 112, 112, 47, 97, 1, 49, 120]⟩, .int .i64 8, .string ⟨#[]⟩, .int .i64 7, .string ⟨#[0, 2, 0]⟩, .int .i64 1, .string ⟨#[1, 2, 5]⟩, .int .i64 8, .string ⟨#[1, 2, 1, 3]⟩, .int .i64 10, .string ⟨#[1, 2, 1, 2, 3, 97, 112, 112]⟩, .int .i64 20, .string ⟨#[1, 2, 0]⟩, .int .i64 0, .string ⟨#[1, 2, 1, 2, 34]⟩, .int .i64 8, .string ⟨#[129, 0, 2, 0]⟩, .int .i64 8] 51)
      rw [← hW, ← hP] at gP
      have bW : Below wr.heap.size wr W := by rw [hW]; exact (Below.refl _ wr).alloc (Nat.le_refl _) _
      have TX : Hid (∀ j (hj : j < Ba.texts.length), W.cell? ⟨P, j * 2, none⟩ = some (.string ⟨Ba.texts[j].1.toArray⟩) ∧ W.cell? ⟨P, j * 2 + 1, none⟩ = some (.int .i64 (Ba.texts[j].2 : Nat))) := fun j hj => by
        have hj10 : j < 10 := hj
        obtain rfl | rfl | rfl | rfl | rfl | rfl | rfl | rfl | rfl | rfl : j = 0 ∨ j = 1 ∨ j = 2 ∨ j = 3 ∨ j = 4 ∨ j = 5 ∨ j = 6 ∨ j = 7 ∨ j = 8 ∨ j = 9 := by omega
        all_goals exact ⟨Sm.cells_of gP _ _ rfl, Sm.cells_of gP _ _ rfl⟩
      have NP := Lib.hid (Sm.lt_of gP)
      have G5 := Lib.hid ((bW.block _ N4.out).trans G4.out)
      have B5 := Lib.hid (B4.out.trans (bW.mono (Nat.le_of_lt N4.out)))
      have N5 := Lib.hid (Nat.lt_of_lt_of_le N4.out bW.size)
      have HW := Lib.hid hW
      have HP := Lib.hid hP
      clear gP bW G4 B4 N4 hW hP
      have RD : Hid (∀ (wx : World) (j : Nat) (hj : j < Ba.texts.length), Calls Try.prog 23 #[.string ⟨Ba.texts[j].1.toArray⟩] wx fun e w' => ∃ i p A n c, e = .returned (.tuple #[.agg #[.int .i64 i, .int .i64 p, .slice A n c], .int .i64 (Ba.texts[j].2 : Nat)]) ∧ Below wx.heap.size wx w') := fun wx j hj => by
        have := baRead_any wx ⟨Ba.texts[j].1.toArray⟩ (Ba.texts_read j hj).2
        rw [(Ba.texts_read j hj).1] at this
        exact this.mono fun _ _ ⟨A, c, h1, _, h3⟩ => ⟨_, _, A, _, c, h1, h3⟩
      go_wp2_with fail
      rw [← HW.out, ← HP.out]
      go_loopw [6] (fun s6 wr => ∃ k : Nat, s6 = .int .i64 k ∧ k ≤ 10 ∧ Below W.heap.size W wr) (fun s6 _ => 10 - (intOf s6).toNat)
      case atStart => exact ⟨0, rfl, by omega, Below.refl _ W⟩
      case round =>
        obtain ⟨k, rfl, hk, hb⟩ := hrel
        by_cases hlt : k < 10
        · have hki : (k : Int) < 10 := by omega
          have hsuc : IntKind.i64.wrap ((k : Int) + 1) = ((k + 1 : Nat) : Int) := by simp [IntKind.wrap, IntKind.bits, IntKind.signed]; omega
          have hlen : k < Ba.texts.length := hlt
          obtain ⟨c0, c1⟩ := TX.out k hlen
          have C0 := (hb.cell (p := ⟨P, k * 2, none⟩) NP.out).trans c0
          have RK := Lib.hid (RD.out wr k hlen)
          obtain ⟨S, hS⟩ : ∃ S : ByteArray, S = ⟨Ba.texts[k].1.toArray⟩ := ⟨_, rfl⟩
          obtain ⟨E, hE⟩ : ∃ E : Int, E = (Ba.texts[k].2 : Nat) := ⟨_, rfl⟩
          rw [← hS] at C0 RK
          rw [← hE] at RK
          have C1 := Lib.hid ((hb.cell (p := ⟨P, k * 2 + 1, none⟩) NP.out).trans c1)
          rw [← hE] at C1
          have DP := Lib.hid (Nat.lt_of_lt_of_le NP.out hb.size)
          have HB := Lib.hid hb
          clear hS hE c0 c1 hb RD
          go_wp2_with fail
          refine RK.out.mono ?_
          rintro e w6 ⟨i, p, A, n, c, rfl, b6⟩
          have z0 : (w6.alloc (.cells #[.int .i64 0, .int .i64 0, .slice none 0 0] 31)).frozen? ⟨w6.heap.size, 0, none⟩ = false := Sm.free_of (heap_alloc_new w6 _) 0
          have bA : Below w6.heap.size w6 (w6.alloc (.cells #[.int .i64 i, .int .i64 p, .slice A n c] 31)) := (Below.refl _ w6).alloc (Nat.le_refl _) _
          have C6 := ((b6.trans (bA.mono b6.size)).cell (p := ⟨P, k * 2 + 1, none⟩) DP.out).trans C1.out
          have B6 := Lib.hid (HB.out.trans ((b6.trans (bA.mono b6.size)).mono HB.out.size))
          clear b6 bA C0 C1
          have hee : ((E : Int) != E) = false := by simp
          go_wp2_with fail
          go_roundw
          case rel => exact ⟨k + 1, rfl, by omega, B6.out⟩
          case measure => simp only [intOf]; omega
        · have hki : ¬ (k : Int) < 10 := by omega
          have G6 := Lib.hid ((hb.block _ N5.out).trans G5.out)
          have B6 := Lib.hid (B5.out.trans (hb.mono (Nat.le_of_lt N5.out)))
          have N6 := Lib.hid (Nat.lt_of_lt_of_le N5.out hb.size)
          clear hb TX NP G5 B5 N5 HW HP RD
          go_upto_region 16 with (fail)
          refine Ba.region_of Ba.kn16 (by kernel_rfl) ?_
          refine Ba.kn16_at N w wr B6.out N6.out G6.out (by kernel_rfl) ?_
          clear B6 N6 G6
          rintro f v9 w9 b9 n9 g9 ⟨q, A, c, e9, hq, hrow, hl⟩
          unfold Ba.F16
          rw [e9]
          obtain ⟨bA, off, rfl, hk⟩ := Ba.Kn17.of g9 hrow hl
          have K9 := Lib.hid hk
          have L9 := Lib.hid hl
          have B9 := Lib.hid b9
          clear b9 n9 g9 e9 hq hrow hl hk
          go_upto_region 17 with (fail)
          refine Ba.region_of Ba.kn17 (by kernel_rfl) ?_
          refine Ba.kn17_at N q bA off c w9 w9 ⟨Below.refl _ w9, K9.out, L9.out⟩ (by kernel_rfl) ?_
          clear K9 L9
          intro f v w10 b10 hT
          unfold Ba.F17
          rw [hT]
          have BB : Hid (Below N w w10) := Lib.hid (B9.out.trans (b10.mono (Nat.le_trans (Nat.le_of_eq HN.out) B9.out.size)))
          clear b10 hT B9
          go_wp2
          go_ret
          have BE := BB.out
          rw [HN.out] at BE
          exact ⟨rfl, BE⟩
end Go.Proofs.Ytlndggbidmmodaa
