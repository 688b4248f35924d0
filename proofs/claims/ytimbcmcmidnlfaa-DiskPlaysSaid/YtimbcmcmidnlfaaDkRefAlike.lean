/-
  The program's disk and the document's are alike.
-/
import Derived.Test.YtimbcmcmidnlfaaDkRefDoes
import Derived.BigQuiet
namespace Go.Proofs.Ytimbcmcmidnlfaa
open Go.RowKit
set_option maxRecDepth 100000 in
set_option maxHeartbeats 4000000 in
theorem alike7_any {Z : Nat → Option Obj} {B : Nat} {w0 w : World} {r : Nat} {fp : Nat → Prop} {v : Value} {M : Dk.Md} (h : Dk.Pair Z B w0 w r fp v M) (hq : Dk.waits M ≤ 1099511627775) :
    Calls Try.prog 30 #[.pointer (some ⟨r, 0, none⟩), v] w fun e w' => e = .returned (.bool true) ∧ Dk.Pair Z B w0 w' r fp v M := by
  obtain ⟨A, c, Bw, d, ws, hv, hT, hW, hk, hrest⟩ := id h.ref
  subst hv
  have hcnt := hk.count
  have hn96 := h.own.disk.ok.n.2
  obtain ⟨N, hN⟩ : ∃ n, n = w.heap.size := ⟨_, rfl⟩
  obtain ⟨n, hnl⟩ : ∃ n, n = M.lasts.length := ⟨_, rfl⟩
  obtain ⟨m, hml⟩ : ∃ m, m = ws.length := ⟨_, rfl⟩
  obtain ⟨f, hf⟩ : ∃ f, f = max M.fuse (-1) := ⟨_, rfl⟩
  obtain ⟨o, ho⟩ : ∃ o, o = M.off := ⟨_, rfl⟩
  rw [← hnl, ← hml, ← hf, ← ho] at h ⊢
  rw [← hml] at hcnt
  have b1 : Below w.heap.size w (w.alloc (.cells #[.slice A n c, .slice Bw m d, .int .i64 f, .bool o] 59)) := (Below.refl _ w).alloc (Nat.le_refl _) _
  have H1 := Lib.hid (h.low b1)
  have g1 := heap_alloc_new w (.cells #[.slice A n c, .slice Bw m d, .int .i64 f, .bool o] 59)
  rw [← hN] at g1
  have SEC : Hid (∀ wx, Dk.Pair Z B w0 wx r fp (.agg #[.slice A n c, .slice Bw m d, .int .i64 f, .bool o]) M → Calls Try.prog 55 #[.pointer (some ⟨r, 0, none⟩)] wx fun e w' => e = .returned (.int .i64 (n : Int)) ∧ wx = w') := fun wx hp => by
    rw [hnl]; exact Dk.sectors_in hp.own
  have WAI : Hid (∀ wx, Dk.Pair Z B w0 wx r fp (.agg #[.slice A n c, .slice Bw m d, .int .i64 f, .bool o]) M → Calls Try.prog 56 #[.pointer (some ⟨r, 0, none⟩)] wx fun e w' => e = .returned (.int .i64 (m : Int)) ∧ Below wx.heap.size wx w') := fun wx hp => by
    have := Dk.waits_in hp.own (by omega)
    rw [hcnt] at this
    exact this.mono fun e w' hx => ⟨hx.1, hx.2.2⟩
  have DOW : Hid (∀ wx, Dk.Pair Z B w0 wx r fp (.agg #[.slice A n c, .slice Bw m d, .int .i64 f, .bool o]) M → Calls Try.prog 57 #[.pointer (some ⟨r, 0, none⟩)] wx fun e w' => e = .returned (.bool o) ∧ wx = w') := fun wx hp => by
    rw [ho]; exact Dk.down_in hp.own
  have RD : Hid (∀ wx (i : Int), Dk.Pair Z B w0 wx r fp (.agg #[.slice A n c, .slice Bw m d, .int .i64 f, .bool o]) M → Calls Try.prog 54 #[.agg #[.slice A n c, .slice Bw m d, .int .i64 f, .bool o], .int .i64 i] wx fun e w' => e = .returned (.tuple #[.string ⟨(Dk.readOf M i).1.toArray⟩, .int .i64 (Dk.readOf M i).2]) ∧ Below wx.heap.size wx w') := fun wx i hp => Dk.read_ref hp.ref hq i
  have RP : Hid (∀ wx (i : Int), Dk.Pair Z B w0 wx r fp (.agg #[.slice A n c, .slice Bw m d, .int .i64 f, .bool o]) M → Calls Try.prog 46 #[.pointer (some ⟨r, 0, none⟩), .int .i64 i] wx fun e w' => e = .returned (.tuple #[.string ⟨(Dk.readOf M i).1.toArray⟩, .int .i64 (Dk.readOf M i).2]) ∧ Below wx.heap.size wx w') := fun wx i hp =>
    (Dk.read_in hp.own i).mono fun e w' hx => ⟨hx.1, hx.2.2⟩
  obtain ⟨w1, hw1⟩ : ∃ x, x = w.alloc (.cells #[.slice A n c, .slice Bw m d, .int .i64 f, .bool o] 59) := ⟨_, rfl⟩
  rw [← hw1] at H1 g1
  have HW1 := Lib.hid hw1
  have HN := Lib.hid hN
  have G1 := Lib.hid g1
  rw [← hnl] at hn96
  clear h hT hW hk hrest hcnt hN hnl hml hf ho hw1 b1 hq
  go_enter Try.func30, Try.ntmps30
  go_upto_region 1 with (fail)
  rw [← HW1.out, ← HN.out]
  have c0 := Sm.cells_of g1 0 _ rfl
  have c1 := Sm.cells_of g1 1 _ rfl
  have c3 := Sm.cells_of g1 3 _ rfl
  replace H1 := Lib.hid (H1.out.low ((Below.refl _ w1).drew))
  replace G1 : Hid (w1.drew.heap[N]? = some (.cells #[.slice A n c, .slice Bw m d, .int .i64 f, .bool o] 59 (0, 0))) := G1.out
  clear c0 c1 c3 g1
  refine wp_region_held_drew (S := (fun w' => w'.heap[N]? = some (.cells #[.slice A n c, .slice Bw m d, .int .i64 f, .bool o] 59 (0, 0)))) (by kernel_rfl) G1.out (fun hHeld => ?_)
  generalize w1.drew = wd at *
  refine wpAnyH_take (i := 0) (oi := ⟨some 10, _, _, _, _, _⟩) (v := .pointer (some ⟨r, 0, none⟩)) rfl (by kernel_rfl) (by kernel_rfl) (by kernel_rfl) (fun _ _ _ h => h) (Or.inl ⟨by rfl, ?_⟩) (by assumption) ?_
  · intro w hSw; (try dsimp only at hSw); go_simp
  simp only [Act.put, List.setIfInBounds_toArray, List.set_cons_zero, List.set_cons_succ]
  refine wpAnyH_take (i := 2) (oi := ⟨some 12, _, _, _, _, _⟩) (v := .pointer (some ⟨N, 0, none⟩)) rfl (by kernel_rfl) (by kernel_rfl) (by kernel_rfl) (fun _ _ _ h => h) (Or.inl ⟨by rfl, ?_⟩) (by assumption) ?_
  · intro w hSw; (try dsimp only at hSw); go_simp
  simp only [Act.put, List.setIfInBounds_toArray, List.set_cons_zero, List.set_cons_succ]
  refine wpAnyH_take (i := 3) (oi := ⟨some 13, _, _, _, _, _⟩) (v := .slice A n c) rfl (by kernel_rfl) (by kernel_rfl) (by kernel_rfl) (fun _ _ _ h => h) (Or.inl ⟨by rfl, ?_⟩) (by assumption) ?_
  · intro w hSw; (try dsimp only at hSw); have hh := Sm.cells_of hSw 0 _ rfl; go_simp
  simp only [Act.put, List.setIfInBounds_toArray, List.set_cons_zero, List.set_cons_succ]
  refine wpAnyH_take (i := 4) (oi := ⟨some 14, _, _, _, _, _⟩) (v := .int .i64 (n : Int)) rfl (by kernel_rfl) (by kernel_rfl) (by kernel_rfl) (fun _ _ _ h => h) (Or.inl ⟨by rfl, ?_⟩) (by assumption) ?_
  · intro w hSw; (try dsimp only at hSw); go_simp
  simp only [Act.put, List.setIfInBounds_toArray, List.set_cons_zero, List.set_cons_succ]
  refine wpAnyH_ready (rs := [1]) (by kernel_rfl) (by simp) ?_
  refine (AllReadyH.cons (o := ⟨some 11, _, _, _, _, _⟩) rfl (fun K hK => ?_) AllReadyH.nil)
  go_simp
  refine (SEC.out _ H1.out).mono ?_
  rintro e we ⟨rfl, rfl⟩
  refine hK.out _ _ G1.out (fun hHeld => ?_)
  clear hK K
  refine wpAnyH_take (i := 5) (oi := ⟨some 15, _, _, _, _, _⟩) (v := .bool false) rfl (by kernel_rfl) (by kernel_rfl) (by kernel_rfl) (fun _ _ _ h => h) (Or.inl ⟨by rfl, ?_⟩) (by assumption) ?_
  · intro w hSw; (try dsimp only at hSw); go_simp
  simp only [Act.put, List.setIfInBounds_toArray, List.set_cons_zero, List.set_cons_succ]
  refine wpAnyH_take (i := 6) (oi := ⟨some 16, _, _, _, _, _⟩) (v := .bool false) rfl (by kernel_rfl) (by kernel_rfl) (by kernel_rfl) (fun _ _ _ h => h) (Or.inl ⟨by rfl, ?_⟩) (by assumption) ?_
  · intro w hSw; (try dsimp only at hSw); go_simp
  simp only [Act.put, List.setIfInBounds_toArray, List.set_cons_zero, List.set_cons_succ]
  refine wpAnyH_take (i := 7) (oi := ⟨some 17, _, _, _, _, _⟩) (v := .pointer (some ⟨r, 0, none⟩)) rfl (by kernel_rfl) (by kernel_rfl) (by kernel_rfl) (fun _ _ _ h => h) (Or.inl ⟨by rfl, ?_⟩) (by assumption) ?_
  · intro w hSw; (try dsimp only at hSw); go_simp
  simp only [Act.put, List.setIfInBounds_toArray, List.set_cons_zero, List.set_cons_succ]
  refine wpAnyH_take (i := 9) (oi := ⟨some 19, _, _, _, _, _⟩) (v := .pointer (some ⟨N, 1, none⟩)) rfl (by kernel_rfl) (by kernel_rfl) (by kernel_rfl) (fun _ _ _ h => h) (Or.inl ⟨by rfl, ?_⟩) (by assumption) ?_
  · intro w hSw; (try dsimp only at hSw); go_simp
  simp only [Act.put, List.setIfInBounds_toArray, List.set_cons_zero, List.set_cons_succ]
  refine wpAnyH_take (i := 10) (oi := ⟨some 20, _, _, _, _, _⟩) (v := .slice Bw m d) rfl (by kernel_rfl) (by kernel_rfl) (by kernel_rfl) (fun _ _ _ h => h) (Or.inl ⟨by rfl, ?_⟩) (by assumption) ?_
  · intro w hSw; (try dsimp only at hSw); have hh := Sm.cells_of hSw 1 _ rfl; go_simp
  simp only [Act.put, List.setIfInBounds_toArray, List.set_cons_zero, List.set_cons_succ]
  refine wpAnyH_take (i := 11) (oi := ⟨some 21, _, _, _, _, _⟩) (v := .int .i64 (m : Int)) rfl (by kernel_rfl) (by kernel_rfl) (by kernel_rfl) (fun _ _ _ h => h) (Or.inl ⟨by rfl, ?_⟩) (by assumption) ?_
  · intro w hSw; (try dsimp only at hSw); go_simp
  simp only [Act.put, List.setIfInBounds_toArray, List.set_cons_zero, List.set_cons_succ]
  refine wpAnyH_ready (rs := [8]) (by kernel_rfl) (by simp) ?_
  refine (AllReadyH.cons (o := ⟨some 18, _, _, _, _, _⟩) rfl (fun K hK => ?_) AllReadyH.nil)
  go_simp
  refine (WAI.out _ H1.out).mono ?_
  rintro e we ⟨rfl, kw⟩
  have H2 := Lib.hid (H1.out.low kw)
  have G2 := Lib.hid ((kw.block N (Sm.lt_of G1.out)).trans G1.out)
  clear kw H1 G1
  refine hK.out _ _ G2.out (fun hHeld => ?_)
  clear hK K
  refine wpAnyH_take (i := 12) (oi := ⟨some 22, _, _, _, _, _⟩) (v := .bool false) rfl (by kernel_rfl) (by kernel_rfl) (by kernel_rfl) (fun _ _ _ h => h) (Or.inl ⟨by rfl, ?_⟩) (by assumption) ?_
  · intro w hSw; (try dsimp only at hSw); go_simp
  simp only [Act.put, List.setIfInBounds_toArray, List.set_cons_zero, List.set_cons_succ]
  refine wpAnyH_take (i := 13) (oi := ⟨some 23, _, _, _, _, _⟩) (v := .bool false) rfl (by kernel_rfl) (by kernel_rfl) (by kernel_rfl) (fun _ _ _ h => h) (Or.inl ⟨by rfl, ?_⟩) (by assumption) ?_
  · intro w hSw; (try dsimp only at hSw); go_simp
  simp only [Act.put, List.setIfInBounds_toArray, List.set_cons_zero, List.set_cons_succ]
  refine wpAnyH_take (i := 14) (oi := ⟨some 24, _, _, _, _, _⟩) (v := .bool false) rfl (by kernel_rfl) (by kernel_rfl) (by kernel_rfl) (fun _ _ _ h => h) (Or.inl ⟨by rfl, ?_⟩) (by assumption) ?_
  · intro w hSw; (try dsimp only at hSw); go_simp
  simp only [Act.put, List.setIfInBounds_toArray, List.set_cons_zero, List.set_cons_succ]
  refine wpAnyH_take (i := 15) (oi := ⟨some 25, _, _, _, _, _⟩) (v := .pointer (some ⟨r, 0, none⟩)) rfl (by kernel_rfl) (by kernel_rfl) (by kernel_rfl) (fun _ _ _ h => h) (Or.inl ⟨by rfl, ?_⟩) (by assumption) ?_
  · intro w hSw; (try dsimp only at hSw); go_simp
  simp only [Act.put, List.setIfInBounds_toArray, List.set_cons_zero, List.set_cons_succ]
  refine wpAnyH_take (i := 17) (oi := ⟨some 27, _, _, _, _, _⟩) (v := .pointer (some ⟨N, 3, none⟩)) rfl (by kernel_rfl) (by kernel_rfl) (by kernel_rfl) (fun _ _ _ h => h) (Or.inl ⟨by rfl, ?_⟩) (by assumption) ?_
  · intro w hSw; (try dsimp only at hSw); go_simp
  simp only [Act.put, List.setIfInBounds_toArray, List.set_cons_zero, List.set_cons_succ]
  refine wpAnyH_take (i := 18) (oi := ⟨some 28, _, _, _, _, _⟩) (v := .bool o) rfl (by kernel_rfl) (by kernel_rfl) (by kernel_rfl) (fun _ _ _ h => h) (Or.inl ⟨by rfl, ?_⟩) (by assumption) ?_
  · intro w hSw; (try dsimp only at hSw); have hh := Sm.cells_of hSw 3 _ rfl; go_simp
  simp only [Act.put, List.setIfInBounds_toArray, List.set_cons_zero, List.set_cons_succ]
  refine wpAnyH_ready (rs := [16]) (by kernel_rfl) (by simp) ?_
  refine (AllReadyH.cons (o := ⟨some 26, _, _, _, _, _⟩) rfl (fun K hK => ?_) AllReadyH.nil)
  go_simp
  refine (DOW.out _ H2.out).mono ?_
  rintro e wf ⟨rfl, rfl⟩
  refine hK.out _ _ G2.out (fun hHeld => ?_)
  clear hK K
  refine wpAnyH_take (i := 19) (oi := ⟨some 29, _, _, _, _, _⟩) (v := .bool false) rfl (by kernel_rfl) (by kernel_rfl) (by kernel_rfl) (fun _ _ _ h => h) (Or.inl ⟨by rfl, ?_⟩) (by assumption) ?_
  · intro w hSw; (try dsimp only at hSw); go_simp
  simp only [Act.put, List.setIfInBounds_toArray, List.set_cons_zero, List.set_cons_succ]
  refine wpAnyH_take (i := 20) (oi := ⟨some 30, _, _, _, _, _⟩) (v := .bool false) rfl (by kernel_rfl) (by kernel_rfl) (by kernel_rfl) (fun _ _ _ h => h) (Or.inl ⟨by rfl, ?_⟩) (by assumption) ?_
  · intro w hSw; (try dsimp only at hSw); go_simp
  simp only [Act.put, List.setIfInBounds_toArray, List.set_cons_zero, List.set_cons_succ]
  refine wpAnyH_done (by kernel_rfl) ?_ _
  clear hHeld
  go_upto_region 4 with (fail)
  go_loopw [5] (fun s5 wr => ∃ k : Nat, s5 = .int .i64 k ∧ k ≤ n ∧ Dk.Pair Z B w0 wr r fp (.agg #[.slice A n c, .slice Bw m d, .int .i64 f, .bool o]) M ∧ wr.heap[N]? = some (.cells #[.slice A n c, .slice Bw m d, .int .i64 f, .bool o] 59 (0, 0))) (fun s5 _ => n - (intOf s5).toNat)
  case atStart => exact ⟨0, rfl, Nat.zero_le _, H2.out, G2.out⟩
  case round =>
    clear H2 G2
    obtain ⟨k, rfl, hk, hp, hg⟩ := hrel
    have c0 := Sm.cells_of hg 0 _ rfl
    by_cases hkl : k < n
    · have hki : (k : Int) < (n : Int) := by omega
      have hsuc : IntKind.i64.wrap ((k : Int) + 1) = ((k + 1 : Nat) : Int) := by simp [IntKind.wrap, IntKind.bits, IntKind.signed]; omega
      obtain ⟨rs, hrs⟩ : ∃ y : ByteArray, y = ⟨(Dk.readOf M k).1.toArray⟩ := ⟨_, rfl⟩
      obtain ⟨rc, hrc⟩ : ∃ y, y = (Dk.readOf M k).2 := ⟨_, rfl⟩
      have R1 := fun wx hx => RP.out wx k hx
      have R2 := fun wx hx => RD.out wx k hx
      rw [← hrs, ← hrc] at R1 R2
      have RR1 := Lib.hid R1
      have RR2 := Lib.hid R2
      have HP := Lib.hid hp
      have HG := Lib.hid hg
      clear hrs hrc R1 R2 hp hg
      go_wp2_with fail
      refine (RR1.out _ HP.out).mono ?_
      rintro e u1 ⟨rfl, k1⟩
      have P1 := HP.out.low k1
      have hg1 := (k1.block N (Sm.lt_of HG.out)).trans HG.out
      clear k1 c0
      have c0 := Sm.cells_of hg1 0 _ rfl
      have c1 := Sm.cells_of hg1 1 _ rfl
      have c2 := Sm.cells_of hg1 2 _ rfl
      have c3 := Sm.cells_of hg1 3 _ rfl
      have PP1 := Lib.hid P1
      have GG1 := Lib.hid hg1
      clear P1 hg1
      go_wp2_with fail
      refine (RR2.out _ PP1.out).mono ?_
      rintro e u2 ⟨rfl, k2⟩
      have PP2 := Lib.hid (PP1.out.low k2)
      have GG2 := Lib.hid ((k2.block N (Sm.lt_of GG1.out)).trans GG1.out)
      clear k2 c0 c1 c2 c3
      go_wp2
      go_roundw
      case rel => exact ⟨k + 1, rfl, hkl, PP2.out, GG2.out⟩
      case measure => simp [intOf]; omega
    · have hki : ¬ (k : Int) < (n : Int) := by omega
      have HP := Lib.hid hp
      clear hp hg
      go_wp2
      go_ret
      exact ⟨rfl, HP.out⟩
end Go.Proofs.Ytimbcmcmidnlfaa
