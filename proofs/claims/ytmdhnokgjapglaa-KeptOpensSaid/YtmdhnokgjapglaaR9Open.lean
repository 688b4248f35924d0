/-
  The document's kept: Open.
-/
import Derived.Test.YtmdhnokgjapglaaR9Holds
import Derived.Test.YtmdhnokgjapglaaDkRefCrash
import Derived.Test.YtmdhnokgjapglaaPtOne
import Derived.Test.YtmdhnokgjapglaaKpOne
import Derived.Laws.ResultCell
namespace Go.Proofs.Ytmdhnokgjapglaa
open Go.RowKit
namespace Kp
def kz : Array Value := #[.int .i64 0, .string ⟨#[]⟩, .int .u64 0, .int .i64 0, .int .u64 0, .bool false]
/-- The document's Kept, as a value. -/
def kv (K : Md) : Array Value := #[.int .i64 K.from_, .string ⟨K.text.toArray⟩, .int .u64 K.gen, .int .i64 (1 - (K.next : Int)), .int .u64 K.seen, .bool K.broken]
theorem info_r9 : (Try.prog.info? 39).map (fun i => (i.zero, i.size)) = some (some (.agg kz), 6) := by kernel_rfl
theorem info_r7d : (Try.prog.info? 32).map (fun i => (i.zero, i.size)) = some (some (.agg #[.slice none 0 0, .slice none 0 0, .int .i64 0, .bool false]), 4) := by kernel_rfl
end Kp
set_option maxRecDepth 100000 in
set_option maxHeartbeats 1000000 in
theorem r9Open_arg {w : World} {fp : Nat → Prop} {v : Value} {M : Dk.Md} (h : Dk.RefAt w fp v M) (hM : M.lasts.length ≤ 4096) (a : Int) (ha : a < 0 ∨ (M.lasts.length : Int) - 20 < a) :
    Calls Try.prog 17 #[v, .int .i64 a] w fun e w' => e = .returned (.tuple #[.agg Kp.kz, .int .i64 1]) ∧ Below w.heap.size w w' := by
  obtain ⟨A, c, B, d, ws, rfl, h1, h2, h3, h4, h5, h6⟩ := h
  have hz1 := (zero_of_info Kp.info_r9).1
  simp only [Kp.kz] at hz1
  obtain ⟨n, hn⟩ : ∃ n, n = M.lasts.length := ⟨_, rfl⟩
  rw [← hn] at h1 ha hM ⊢
  obtain ⟨m, hm⟩ : ∃ m, m = ws.length := ⟨_, rfl⟩
  rw [← hm]
  obtain ⟨f, hf⟩ : ∃ f, f = max M.fuse (-1) := ⟨_, rfl⟩
  rw [← hf]
  have hw : IntKind.i64.wrap ((n : Int) - 20) = (n : Int) - 20 := IntWalk.i64_in _ (by omega)
  clear h1 h2 h3 h4 h5 h6 hn hm hf
  have g1 := heap_alloc_new w (.cells #[.slice A n c, .slice B m d, .int .i64 f, .bool M.off] 32)
  have k1 : Below w.heap.size w (w.alloc (.cells #[.slice A n c, .slice B m d, .int .i64 f, .bool M.off] 32)) := (Below.refl _ w).alloc (Nat.le_refl _) _
  have k2 := k1.alloc k1.size (.cells #[.int .i64 0, .string ⟨#[]⟩, .int .u64 0, .int .i64 0, .int .u64 0, .bool false] 39)
  have g2 := heap_alloc_new (w.alloc (.cells #[.slice A n c, .slice B m d, .int .i64 f, .bool M.off] 32)) (.cells #[.int .i64 0, .string ⟨#[]⟩, .int .u64 0, .int .i64 0, .int .u64 0, .bool false] 39)
  rw [World.size_alloc] at g2
  have K2 := Lib.hid k2
  have x0 := Sm.cells_of g2 0 _ rfl
  have x1 := Sm.cells_of g2 1 _ rfl
  have x2 := Sm.cells_of g2 2 _ rfl
  have x3 := Sm.cells_of g2 3 _ rfl
  have x4 := Sm.cells_of g2 4 _ rfl
  have x5 := Sm.cells_of g2 5 _ rfl
  clear k2 k1
  by_cases h0 : a < 0
  · go_enter Try.func17, Try.ntmps17
    go_wp2_with fail
    exact bodyPost_ret (v := .tuple #[.agg Kp.kz, .int .i64 1]) ((results_cell_tmp rfl _ _ _).trans (by go_simp; rfl)) rfl ⟨rfl, K2.out⟩
  · have hr : (n : Int) - 20 < a := by omega
    go_enter Try.func17, Try.ntmps17
    go_wp2_with fail
    exact bodyPost_ret (v := .tuple #[.agg Kp.kz, .int .i64 1]) ((results_cell_tmp rfl _ _ _).trans (by go_simp; rfl)) rfl ⟨rfl, K2.out⟩
theorem Kp.sees_read {M : Dk.Md} {a : Int} (ha : 0 ≤ a ∧ a + 20 ≤ M.lasts.length) (ho : M.off = false) {i : Nat} (hi : i < 20) : Dk.readOf M (a + i) = (Kp.sees M a i, 0) := by
  unfold Dk.readOf
  rw [ho, if_neg (by decide), if_pos (by simp [Dk.there]; omega), Kp.sees, show (a + (i : Int)).toNat = a.toNat + i by omega]
theorem Kp.read_ref9 {w : World} {fp : Nat → Prop} {v : Value} {M : Dk.Md} (h : Dk.RefAt w fp v M) (hq : Dk.waits M ≤ 1099511627775) (i : Int) :
    Calls Try.prog 38 #[v, .int .i64 i] w fun e w' => e = .returned (.tuple #[.string ⟨(Dk.readOf M i).1.toArray⟩, .int .i64 (Dk.readOf M i).2]) ∧ Below w.heap.size w w' := by
  obtain ⟨A, c, B, d, ws, rfl, h1, h2, h3, _⟩ := h
  rw [Dk.read_like h3]
  exact r7Read_any w 0 A c d B M.lasts ws _ _ h1 h2 (by rw [← h3.count]; omega) i
theorem Kp.great_step (f : Nat → List UInt8) {i : Nat} (hi : i < 20) : Kp.greatest ((Kp.place f).take (i + 1)) = max (Kp.greatest ((Kp.place f).take i)) (Kp.gen (Dk.lookOf (f i)).1) := by
  rw [Kp.place_next f hi, Kp.greatest, List.foldl_append]
  rfl
theorem Kp.gen_else {b : List UInt8} (h : (Dk.lookOf b).2 ≠ 1) : Kp.gen (Dk.lookOf b).1 = 0 := by
  rw [Kp.look_zero h]; rfl
theorem Kp.place_bods1 (f : Nat → List UInt8) : (Kp.place f).take 10 = Kp.bods (((List.range 20).map f).take 10) := by
  rw [Kp.place, Kp.bods, List.map_take, List.map_map]; rfl
theorem Kp.place_bods2 (f : Nat → List UInt8) : (Kp.place f).drop 10 = Kp.bods (((List.range 20).map f).drop 10) := by
  rw [Kp.place, Kp.bods, List.map_drop, List.map_map]; rfl
theorem Kp.range_more (f : Nat → List UInt8) (i : Nat) : (List.range (i + 1)).map f = (List.range i).map f ++ [f i] := by
  rw [List.range_succ, List.map_append]; rfl
set_option maxRecDepth 100000 in
set_option maxHeartbeats 4000000 in
theorem r9Open_in {w : World} {fp : Nat → Prop} {v : Value} {M : Dk.Md} (h : Dk.RefAt w fp v M) (hq : Dk.waits M ≤ 1099511627775) (hM : M.lasts.length ≤ 4096) (a : Int) (ha : 0 ≤ a ∧ a + 20 ≤ M.lasts.length) :
    Calls Try.prog 17 #[v, .int .i64 a] w fun e w' => Below w.heap.size w w' ∧
      ((Kp.readErr M a ≠ 0 ∧ e = .returned (.tuple #[.agg Kp.kz, .int .i64 (Kp.readErr M a)])) ∨ (Kp.readErr M a = 0 ∧ e = .returned (.tuple #[.agg (Kp.kv (Kp.opened (Kp.sees M a) a)), .int .i64 0]))) := by
  have RR : Hid (∀ (i : Int) (wx : World), Below w.heap.size w wx → Calls Try.prog 38 #[v, .int .i64 i] wx fun e w' => e = .returned (.tuple #[.string ⟨(Dk.readOf M i).1.toArray⟩, .int .i64 (Dk.readOf M i).2]) ∧ Below wx.heap.size wx w') := fun i wx hx => Kp.read_ref9 (h.low hx) hq i
  obtain ⟨E, hE⟩ : ∃ E, E = Kp.readErr M a := ⟨_, rfl⟩
  have HE := Lib.hid hE
  obtain ⟨OV, hOV⟩ : ∃ V, V = Kp.kv (Kp.opened (Kp.sees M a) a) := ⟨_, rfl⟩
  have HOV := Lib.hid hOV
  rw [← hE, ← hOV]
  clear hE hOV
  obtain ⟨A, c, B, d, ws, rfl, h1, h2, h3, h4, h5, h6⟩ := h
  have hz1 := (zero_of_info Kp.info_r9).1
  simp only [Kp.kz] at hz1
  have HA := Lib.hid ha
  obtain ⟨n, hn⟩ : ∃ n, n = M.lasts.length := ⟨_, rfl⟩
  have HN := Lib.hid hn
  rw [← hn] at ha hM RR ⊢
  obtain ⟨m, hm⟩ : ∃ m, m = ws.length := ⟨_, rfl⟩
  rw [← hm] at RR ⊢
  obtain ⟨f, hf⟩ : ∃ f, f = max M.fuse (-1) := ⟨_, rfl⟩
  rw [← hf] at RR ⊢
  obtain ⟨ofb, hofb⟩ : ∃ f, f = M.off := ⟨_, rfl⟩
  rw [← hofb] at RR ⊢
  have HOF := Lib.hid hofb
  have hw : IntKind.i64.wrap ((n : Int) - 20) = (n : Int) - 20 := IntWalk.i64_in _ (by omega)
  have p0 : ¬ a < 0 := by omega
  have p1 : ¬ (n : Int) - 20 < a := by omega
  clear h1 h2 h3 h4 h5 h6 hn hm hf hofb hq
  obtain ⟨w2, hw2⟩ : ∃ x, x = (w.alloc (.cells #[.slice A n c, .slice B m d, .int .i64 f, .bool ofb] 32)).alloc (.cells #[.int .i64 0, .string ⟨#[]⟩, .int .u64 0, .int .i64 0, .int .u64 0, .bool false] 39) := ⟨_, rfl⟩
  have b2 : Below w.heap.size w w2 := by rw [hw2]; exact ((Below.refl _ w).alloc (Nat.le_refl _) _).alloc (by simp) _
  have d2 : w2.heap[w.heap.size]? = some (.cells #[.slice A n c, .slice B m d, .int .i64 f, .bool ofb] 32 (0, 0)) := by rw [hw2, Below.heap_alloc _ _ _ (by simp)]; exact heap_alloc_new w _
  have z2 : w2.heap[w.heap.size + 1]? = some (.cells #[.int .i64 0, .string ⟨#[]⟩, .int .u64 0, .int .i64 0, .int .u64 0, .bool false] 39 (0, 0)) := by
    have := heap_alloc_new (w.alloc (.cells #[.slice A n c, .slice B m d, .int .i64 f, .bool ofb] 32)) (.cells #[.int .i64 0, .string ⟨#[]⟩, .int .u64 0, .int .i64 0, .int .u64 0, .bool false] 39)
    rw [World.size_alloc] at this
    rw [hw2]; exact this
  have s2 : w2.heap.size = w.heap.size + 2 := by rw [hw2]; simp
  have HW2 := Lib.hid hw2
  have x0 := Sm.cells_of d2 0 _ rfl
  have B2 := Lib.hid b2
  have D2 := Lib.hid d2
  have Z2 := Lib.hid z2
  clear hw2 b2 d2 z2
  go_enter Try.func17, Try.ntmps17
  go_upto_region 1 with (fail)
  rw [show (w.alloc (.cells #[.slice A n c, .slice B m d, .int .i64 f, .bool ofb] 32)).alloc (.cells #[.int .i64 0, .string ⟨#[]⟩, .int .u64 0, .int .i64 0, .int .u64 0, .bool false] 39) = w2 from HW2.out.symm]
  go_upto_region 4 with (fail)
  obtain ⟨w3, hw3⟩ : ∃ x, x = w2.alloc (.cells #[.int .i64 a, .string ⟨#[]⟩, .int .u64 0, .int .i64 1, .int .u64 0, .bool false] 39) := ⟨_, rfl⟩
  have b3 : Below w.heap.size w w3 := by rw [hw3]; exact B2.out.alloc (by omega) _
  have d3 : w3.heap[w.heap.size]? = some (.cells #[.slice A n c, .slice B m d, .int .i64 f, .bool ofb] 32 (0, 0)) := by rw [hw3, Below.heap_alloc _ _ _ (by omega)]; exact D2.out
  have z3 : w3.heap[w.heap.size + 1]? = some (.cells #[.int .i64 0, .string ⟨#[]⟩, .int .u64 0, .int .i64 0, .int .u64 0, .bool false] 39 (0, 0)) := by rw [hw3, Below.heap_alloc _ _ _ (by omega)]; exact Z2.out
  have y3 : w3.heap[w.heap.size + 2]? = some (.cells #[.int .i64 a, .string ⟨#[]⟩, .int .u64 0, .int .i64 1, .int .u64 ((0 : Nat) : Int), .bool false] 39 (0, 0)) := by
    have := heap_alloc_new w2 (.cells #[.int .i64 a, .string ⟨#[]⟩, .int .u64 0, .int .i64 1, .int .u64 0, .bool false] 39)
    rw [s2] at this
    rw [hw3]; exact this
  have s3 : w3.heap.size = w.heap.size + 3 := by rw [hw3]; simp [s2]
  rw [← hw3]
  have B3 := Lib.hid b3
  have D3 := Lib.hid d3
  have Z3 := Lib.hid z3
  have Y3 := Lib.hid y3
  have S3 := Lib.hid s3
  obtain ⟨N, hNN⟩ : ∃ N, N = w.heap.size := ⟨_, rfl⟩
  have HNN := Lib.hid hNN
  clear hw3 b3 d3 z3 y3 s3 s2 x0 hz1 B2 D2 Z2 HW2 p0 p1 hw
  rw [← hNN] at RR B3 D3 Z3 Y3 S3 ⊢
  clear hNN
  go_wp2_with fail
  go_loopw [7, 8] (fun s7 s8 wr => ∃ (i : Nat) (A' : Option Addr) (c' m' sn : Nat), s7 = .slice A' m' c' ∧ s8 = .int .i64 i ∧ i ≤ 20 ∧ m' = i ∧ sn = Kp.greatest ((Kp.place (Kp.sees M a)).take i) ∧ sn < 18446744073709551616 ∧ (1 ≤ i → M.off = false) ∧ (∀ j, j < i → (Dk.lookOf (Kp.sees M a j)).2 ≠ 2) ∧
      Lg.Mine (N + 3) wr (fun q => q < N + 3) (.slice A' m' c') ((List.range i).map (Kp.sees M a)) ∧ Below N w wr ∧ N + 3 ≤ wr.heap.size ∧
      wr.heap[N]? = some (.cells #[.slice A n c, .slice B m d, .int .i64 f, .bool ofb] 32 (0, 0)) ∧
      wr.heap[N + 1]? = some (.cells #[.int .i64 0, .string ⟨#[]⟩, .int .u64 0, .int .i64 0, .int .u64 0, .bool false] 39 (0, 0)) ∧
      wr.heap[N + 2]? = some (.cells #[.int .i64 a, .string ⟨#[]⟩, .int .u64 0, .int .i64 1, .int .u64 (sn : Int), .bool false] 39 (0, 0))) (fun _ s8 _ => 20 - (intOf s8).toNat)
  case atStart => exact ⟨0, none, 0, 0, 0, rfl, rfl, by decide, rfl, rfl, by decide, fun h => by omega, fun j hj => by omega, Lg.Mine.nil _ _ _, B3.out, Nat.le_of_eq S3.out.symm, D3.out, Z3.out, Y3.out⟩
  case round =>
    obtain ⟨i, A', c', m', sn, rfl, rfl, hi, hm', hsn, hsl, hio, hgood, hmine, hb, hsz, hd, hz, hy⟩ := hrel
    have HM' := Lib.hid hm'
    have HSN := Lib.hid hsn
    have HIO := Lib.hid hio
    have HG := Lib.hid hgood
    have HMN := Lib.hid hmine
    have HB := Lib.hid hb
    have HD := Lib.hid hd
    have HZ := Lib.hid hz
    have HY := Lib.hid hy
    have x0 := Sm.cells_of hd 0 _ rfl
    have x1 := Sm.cells_of hd 1 _ rfl
    have x2 := Sm.cells_of hd 2 _ rfl
    have x3 := Sm.cells_of hd 3 _ rfl
    clear hm' hsn hio hgood hmine hb hd hz hy
    by_cases hlt : i < 20
    · have hki : (i : Int) < 20 := by omega
      have hsuc : IntKind.i64.wrap ((i : Int) + 1) = ((i + 1 : Nat) : Int) := by rw [IntWalk.i64_in _ (by omega)]; omega
      have hai : IntKind.i64.wrap (a + (i : Int)) = a + (i : Int) := IntWalk.i64_in _ (by omega)
      have RD := Lib.hid (RR.out (a + (i : Int)) _ HB.out)
      by_cases hoff : M.off = true
      · have e1 : Dk.readOf M (a + (i : Int)) = ([], 14) := by unfold Dk.readOf; rw [hoff]; rfl
        rw [e1] at RD
        have e2 : Hid (E = 14) := by show _ = _; rw [HE.out, Kp.readErr, hoff]; rfl
        clear e1 hoff hsuc
        go_wp2_with (go_at_call 38; refine RD.out.mono ?_; rintro e w4 ⟨rfl, k4⟩; have z4 := (k4.block (N + 1) (Sm.lt_of HZ.out)).trans HZ.out; have q0 := Sm.cells_of z4 0 _ rfl; have q1 := Sm.cells_of z4 1 _ rfl; have q2 := Sm.cells_of z4 2 _ rfl; have q3 := Sm.cells_of z4 3 _ rfl; have q4 := Sm.cells_of z4 4 _ rfl; have q5 := Sm.cells_of z4 5 _ rfl; have r0 := Sm.free_of z4 0; have r1 := Sm.free_of z4 1; have r2 := Sm.free_of z4 2; have r3 := Sm.free_of z4 3; have r4 := Sm.free_of z4 4; have r5 := Sm.free_of z4 5)
        exact bodyPost_ret (v := .tuple #[.agg Kp.kz, .int .i64 14]) ((results_cell_tmp rfl _ _ _).trans (by go_simp; rfl)) rfl ⟨by rw [← HNN.out]; have b4 := HB.out.trans (k4.mono (by omega)); exact ((((((b4.setCell (p := ⟨N + 1, 0, none⟩) (Nat.le_succ N) _).setCell (p := ⟨N + 1, 1, none⟩) (Nat.le_succ N) _).setCell (p := ⟨N + 1, 2, none⟩) (Nat.le_succ N) _).setCell (p := ⟨N + 1, 3, none⟩) (Nat.le_succ N) _).setCell (p := ⟨N + 1, 4, none⟩) (Nat.le_succ N) _).setCell (p := ⟨N + 1, 5, none⟩) (Nat.le_succ N) _), .inl ⟨by rw [e2.out]; decide, by rw [e2.out]⟩⟩
      · have hof : M.off = false := by simpa using hoff
        obtain ⟨zs, hzs⟩ : ∃ b : ByteArray, b = ⟨(Kp.sees M a i).toArray⟩ := ⟨_, rfl⟩
        have hzl : zs.data.toList = Kp.sees M a i := by rw [hzs]
        rw [Kp.sees_read HA.out hof hlt, ← hzs] at RD
        have LO : Hid (∀ wx : World, Calls Try.prog 39 #[.string zs] wx fun e w' => e = .returned (.tuple #[.string ⟨(Dk.lookOf (Kp.sees M a i)).1.toArray⟩, .int .i64 (Dk.lookOf (Kp.sees M a i)).2]) ∧ Below wx.heap.size wx w') := fun wx => by rw [← hzl]; exact r7Look_any wx zs
        obtain ⟨bs, hbs⟩ : ∃ b : ByteArray, b = ⟨(Dk.lookOf (Kp.sees M a i)).1.toArray⟩ := ⟨_, rfl⟩
        have hbl : bs.data.toList = (Dk.lookOf (Kp.sees M a i)).1 := by rw [hbs]
        obtain ⟨st, hst⟩ : ∃ z, z = (Dk.lookOf (Kp.sees M a i)).2 := ⟨_, rfl⟩
        rw [← hbs, ← hst] at LO
        have HST := Lib.hid hst
        have HBL := Lib.hid hbl
        have HZL := Lib.hid hzl
        have HOFF := Lib.hid hof
        clear hoff hof hzs hzl hbs hbl hst
        go_upto_region 12 with (first
          | (go_at_call 38; refine RD.out.mono ?_; rintro e w4 ⟨rfl, k4⟩)
          | (go_at_call 39; refine (LO.out _).mono ?_; rintro e w5 ⟨rfl, k5⟩))
        have k45 := k4.trans (k5.mono k4.size)
        have b5 := HB.out.trans (k45.mono (by omega))
        have z4 := (k45.block (N + 1) (Sm.lt_of HZ.out)).trans HZ.out
        have d5 := (k45.block N (Sm.lt_of HD.out)).trans HD.out
        have y5 := (k45.block (N + 2) (Sm.lt_of HY.out)).trans HY.out
        have mn5 := HMN.out.low k45
        have hsz5 := k45.size
        by_cases hs2 : st = 2
        · have e2 : Hid (E = 9) := by
            show _ = _
            rw [HE.out, Kp.readErr, HOFF.out, if_neg (by decide), if_pos (Kp.bad_at hlt (by rw [← HST.out]; exact hs2))]
          subst hs2
          have q0 := Sm.cells_of z4 0 _ rfl; have q1 := Sm.cells_of z4 1 _ rfl; have q2 := Sm.cells_of z4 2 _ rfl; have q3 := Sm.cells_of z4 3 _ rfl; have q4 := Sm.cells_of z4 4 _ rfl; have q5 := Sm.cells_of z4 5 _ rfl; have r0 := Sm.free_of z4 0; have r1 := Sm.free_of z4 1; have r2 := Sm.free_of z4 2; have r3 := Sm.free_of z4 3; have r4 := Sm.free_of z4 4; have r5 := Sm.free_of z4 5
          go_wp2_with fail
          exact bodyPost_ret (v := .tuple #[.agg Kp.kz, .int .i64 9]) ((results_cell_tmp rfl _ _ _).trans (by go_simp; rfl)) rfl ⟨by rw [← HNN.out]; exact ((((((b5.setCell (p := ⟨N + 1, 0, none⟩) (Nat.le_succ N) _).setCell (p := ⟨N + 1, 1, none⟩) (Nat.le_succ N) _).setCell (p := ⟨N + 1, 2, none⟩) (Nat.le_succ N) _).setCell (p := ⟨N + 1, 3, none⟩) (Nat.le_succ N) _).setCell (p := ⟨N + 1, 4, none⟩) (Nat.le_succ N) _).setCell (p := ⟨N + 1, 5, none⟩) (Nat.le_succ N) _), .inl ⟨by rw [e2.out]; decide, by rw [e2.out]⟩⟩
        have hs2b : (st == 2) = false := beq_eq_false_iff_ne.2 hs2
        have HNB : Hid (∀ j, j < i + 1 → (Dk.lookOf (Kp.sees M a j)).2 ≠ 2) := fun j hj => by
          by_cases hji : j < i
          · exact HG.out j hji
          · have : j = i := by omega
            rw [this, ← HST.out]; exact hs2
        have v4 := Sm.cells_of y5 4 _ rfl
        have v4f := Sm.free_of y5 4
        by_cases hs1 : st = 1
        · have h60 : bs.size = 60 := by
            have := congrArg List.length HBL.out
            rw [(Kp.look_one (HST.out.symm.trans hs1)).2] at this
            simpa using this
          obtain ⟨x, hx⟩ : ∃ x, x = Kp.gen bs.data.toList := ⟨_, rfl⟩
          have GE : Hid (∀ wx, Calls Try.prog 40 #[.string bs] wx fun e w' => e = .returned (.int .u64 (x : Nat)) ∧ wx = w') := fun wx => by rw [hx]; exact r9gen_any wx bs h60
          have hxl : x < 18446744073709551616 := by rw [hx]; exact Kp.gen_lt _
          have GS : Hid (Kp.greatest ((Kp.place (Kp.sees M a)).take (i + 1)) = max sn x) := by
            show _ = _
            rw [Kp.great_step _ hlt, ← HSN.out, ← HBL.out, ← hx]
          have HXL := Lib.hid hxl
          clear hx h60
          subst hs1
          have GQ : Hid (∀ wx, Calls Try.prog 40 #[.string bs] wx fun e w' => e = .returned (.int .u64 (x : Nat)) ∧ w' = wx) := fun wx => (GE.out wx).mono fun _ _ h => ⟨h.1, h.2.symm⟩
          by_cases hgt : sn < x
          · have hgi : (sn : Int) < (x : Int) := by omega
            go_upto_region 14 with (fail)
            go_quiet ((go_at_call 40; with_reducible exact Calls.quiet_of_same (GQ.out _)))
            go_upto_region 16 with (go_at_call 40; refine (GE.out _).mono ?_; rintro e w9 ⟨rfl, rfl⟩)
            obtain ⟨wy, hwy⟩ : ∃ y, y = (w5.drewN nq).setCell ⟨N + 2, 4, none⟩ (.int .u64 (x : Int)) := ⟨_, rfl⟩
            have Y : wy.heap[N + 2]? = some (.cells #[.int .i64 a, .string ⟨#[]⟩, .int .u64 0, .int .i64 1, .int .u64 (x : Int), .bool false] 39 (0, 0)) := by rw [hwy]; exact Sm.heap_set (w := w5.drewN nq) y5 4 _
            have D : wy.heap[N]? = some (.cells #[.slice A n c, .slice B m d, .int .i64 f, .bool ofb] 32 (0, 0)) := by rw [hwy, Below.heap_setCell _ _ _ _ (by simp)]; exact d5
            have Z : wy.heap[N + 1]? = some (.cells #[.int .i64 0, .string ⟨#[]⟩, .int .u64 0, .int .i64 0, .int .u64 0, .bool false] 39 (0, 0)) := by rw [hwy, Below.heap_setCell _ _ _ _ (by simp)]; exact z4
            have MY : Lg.Mine (N + 3) wy (fun q => q < N + 3) (.slice A' m' c') (List.map (Kp.sees M a) (List.range i)) := by rw [hwy]; exact mn5.turned ⟨rfl, rfl, rfl, by simp, fun q _ hn => Below.heap_setCell _ _ _ _ (by simp; omega)⟩ fun _ => .inl
            have BY : Below N w wy := by rw [hwy]; exact (Sm.below_drewN b5 nq).setCell (p := ⟨N + 2, 4, none⟩) (by simp) _
            have SY : N + 3 ≤ wy.heap.size := by rw [hwy]; simp; omega
            rw [← hwy]
            clear hwy
            have hal := (Below.refl wy.heap.size wy).alloc (Nat.le_refl _) (.cells #[.string zs] 9)
            have MP := Lib.hid (MY.low hal)
            go_upto_region 7 with (at_builtin; refine Lg.wp_more rfl _ _ rfl rfl MP.out rfl (Sm.cells_of (heap_alloc_new wy _) 0 _ rfl) (by simp; omega) (by simp; omega) (fun q hq => by simp; omega) fun A5 c5 w6 mi6 tu6 => ?_)
            have hrl : (List.map (Kp.sees M a) (List.range i)).length = i := by simp
            rw [hrl] at mi6
            have nb : ∀ q, q < N + 3 → ¬ (Value.slice A' m' c').ownBlock = some q := fun q hq e => MP.out.off q e hq
            have NX : ∀ q ob, q < N + 3 → wy.heap[q]? = some ob → w6.heap[q]? = some ob := fun q ob hq e => (tu6.block q (by simp; omega) (nb q hq)).trans ((hal.block q (by omega)).trans e)
            have B6 : Below N w w6 := BY.trans ((hal.mono (by omega)).trans (tu6.below (fun q e => Nat.le_of_lt (Nat.lt_of_not_le fun h => nb q (by omega) e)) (by simp; omega)))
            have D6 := NX N _ (by omega) D
            have Z6 := NX (N + 1) _ (by omega) Z
            have Y6 := NX (N + 2) _ (by omega) Y
            have S6 : N + 3 ≤ w6.heap.size := by have := tu6.size; simp at this; omega
            rw [HZL.out, ← Kp.range_more] at mi6
            have HMI := Lib.hid mi6
            have HB6 := Lib.hid B6
            have HD6 := Lib.hid D6
            have HZ6 := Lib.hid Z6
            have HY6 := Lib.hid Y6
            clear mi6 B6 D6 Z6 Y6 NX nb tu6 MP hal MY BY D Z Y hrl
            go_wp2
            go_roundw
            case rel => exact ⟨i + 1, A5, c5, i + 1, x, rfl, rfl, hlt, rfl, by rw [GS.out]; exact (Nat.max_eq_right (Nat.le_of_lt hgt)).symm, HXL.out, fun _ => HOFF.out, HNB.out, HMI.out, HB6.out, S6, HD6.out, HZ6.out, HY6.out⟩
            case measure => simp [intOf]; omega
          · have hgi : ¬ (sn : Int) < (x : Int) := by omega
            go_upto_region 14 with (fail)
            go_quiet ((go_at_call 40; with_reducible exact Calls.quiet_of_same (GQ.out _)))
            go_upto_region 16 with (fail)
            obtain ⟨wy, hwy⟩ : ∃ y, y = w5.drewN nq := ⟨_, rfl⟩
            have Y : wy.heap[N + 2]? = some (.cells #[.int .i64 a, .string ⟨#[]⟩, .int .u64 0, .int .i64 1, .int .u64 (sn : Int), .bool false] 39 (0, 0)) := by rw [hwy]; exact y5
            have D : wy.heap[N]? = some (.cells #[.slice A n c, .slice B m d, .int .i64 f, .bool ofb] 32 (0, 0)) := by rw [hwy]; exact d5
            have Z : wy.heap[N + 1]? = some (.cells #[.int .i64 0, .string ⟨#[]⟩, .int .u64 0, .int .i64 0, .int .u64 0, .bool false] 39 (0, 0)) := by rw [hwy]; exact z4
            have MY : Lg.Mine (N + 3) wy (fun q => q < N + 3) (.slice A' m' c') (List.map (Kp.sees M a) (List.range i)) := by rw [hwy]; exact mn5.turned ⟨rfl, rfl, rfl, Nat.le_refl _, fun _ _ _ => rfl⟩ fun _ => .inl
            have BY : Below N w wy := by rw [hwy]; exact Sm.below_drewN b5 nq
            have SY : N + 3 ≤ wy.heap.size := by rw [hwy]; simp; omega
            rw [← hwy]
            clear hwy
            have hal := (Below.refl wy.heap.size wy).alloc (Nat.le_refl _) (.cells #[.string zs] 9)
            have MP := Lib.hid (MY.low hal)
            go_upto_region 7 with (at_builtin; refine Lg.wp_more rfl _ _ rfl rfl MP.out rfl (Sm.cells_of (heap_alloc_new wy _) 0 _ rfl) (by simp; omega) (by simp; omega) (fun q hq => by simp; omega) fun A5 c5 w6 mi6 tu6 => ?_)
            have hrl : (List.map (Kp.sees M a) (List.range i)).length = i := by simp
            rw [hrl] at mi6
            have nb : ∀ q, q < N + 3 → ¬ (Value.slice A' m' c').ownBlock = some q := fun q hq e => MP.out.off q e hq
            have NX : ∀ q ob, q < N + 3 → wy.heap[q]? = some ob → w6.heap[q]? = some ob := fun q ob hq e => (tu6.block q (by simp; omega) (nb q hq)).trans ((hal.block q (by omega)).trans e)
            have B6 : Below N w w6 := BY.trans ((hal.mono (by omega)).trans (tu6.below (fun q e => Nat.le_of_lt (Nat.lt_of_not_le fun h => nb q (by omega) e)) (by simp; omega)))
            have D6 := NX N _ (by omega) D
            have Z6 := NX (N + 1) _ (by omega) Z
            have Y6 := NX (N + 2) _ (by omega) Y
            have S6 : N + 3 ≤ w6.heap.size := by have := tu6.size; simp at this; omega
            rw [HZL.out, ← Kp.range_more] at mi6
            have HMI := Lib.hid mi6
            have HB6 := Lib.hid B6
            have HD6 := Lib.hid D6
            have HZ6 := Lib.hid Z6
            have HY6 := Lib.hid Y6
            clear mi6 B6 D6 Z6 Y6 NX nb tu6 MP hal MY BY D Z Y hrl
            go_wp2
            go_roundw
            case rel => exact ⟨i + 1, A5, c5, i + 1, sn, rfl, rfl, hlt, rfl, by rw [GS.out]; exact (Nat.max_eq_left (Nat.le_of_not_lt hgt)).symm, hsl, fun _ => HOFF.out, HNB.out, HMI.out, HB6.out, S6, HD6.out, HZ6.out, HY6.out⟩
            case measure => simp [intOf]; omega
        · have hs1b : (st == 1) = false := beq_eq_false_iff_ne.2 hs1
          go_upto_region 14 with (fail)
          go_quiet (fail)
          go_upto_region 16 with (fail)
          have GS : Hid (Kp.greatest ((Kp.place (Kp.sees M a)).take (i + 1)) = sn) := by
            show _ = _
            rw [Kp.great_step _ hlt, ← HSN.out, Kp.gen_else (by rw [← HST.out]; exact hs1), Nat.max_eq_left (Nat.zero_le _)]
          obtain ⟨wy, hwy⟩ : ∃ y, y = w5.drewN nq := ⟨_, rfl⟩
          have Y : wy.heap[N + 2]? = some (.cells #[.int .i64 a, .string ⟨#[]⟩, .int .u64 0, .int .i64 1, .int .u64 (sn : Int), .bool false] 39 (0, 0)) := by rw [hwy]; exact y5
          have D : wy.heap[N]? = some (.cells #[.slice A n c, .slice B m d, .int .i64 f, .bool ofb] 32 (0, 0)) := by rw [hwy]; exact d5
          have Z : wy.heap[N + 1]? = some (.cells #[.int .i64 0, .string ⟨#[]⟩, .int .u64 0, .int .i64 0, .int .u64 0, .bool false] 39 (0, 0)) := by rw [hwy]; exact z4
          have MY : Lg.Mine (N + 3) wy (fun q => q < N + 3) (.slice A' m' c') (List.map (Kp.sees M a) (List.range i)) := by rw [hwy]; exact mn5.turned ⟨rfl, rfl, rfl, Nat.le_refl _, fun _ _ _ => rfl⟩ fun _ => .inl
          have BY : Below N w wy := by rw [hwy]; exact Sm.below_drewN b5 nq
          have SY : N + 3 ≤ wy.heap.size := by rw [hwy]; simp; omega
          rw [← hwy]
          clear hwy
          have hal := (Below.refl wy.heap.size wy).alloc (Nat.le_refl _) (.cells #[.string zs] 9)
          have MP := Lib.hid (MY.low hal)
          go_upto_region 7 with (at_builtin; refine Lg.wp_more rfl _ _ rfl rfl MP.out rfl (Sm.cells_of (heap_alloc_new wy _) 0 _ rfl) (by simp; omega) (by simp; omega) (fun q hq => by simp; omega) fun A5 c5 w6 mi6 tu6 => ?_)
          have hrl : (List.map (Kp.sees M a) (List.range i)).length = i := by simp
          rw [hrl] at mi6
          have nb : ∀ q, q < N + 3 → ¬ (Value.slice A' m' c').ownBlock = some q := fun q hq e => MP.out.off q e hq
          have NX : ∀ q ob, q < N + 3 → wy.heap[q]? = some ob → w6.heap[q]? = some ob := fun q ob hq e => (tu6.block q (by simp; omega) (nb q hq)).trans ((hal.block q (by omega)).trans e)
          have B6 : Below N w w6 := BY.trans ((hal.mono (by omega)).trans (tu6.below (fun q e => Nat.le_of_lt (Nat.lt_of_not_le fun h => nb q (by omega) e)) (by simp; omega)))
          have D6 := NX N _ (by omega) D
          have Z6 := NX (N + 1) _ (by omega) Z
          have Y6 := NX (N + 2) _ (by omega) Y
          have S6 : N + 3 ≤ w6.heap.size := by have := tu6.size; simp at this; omega
          rw [HZL.out, ← Kp.range_more] at mi6
          have HMI := Lib.hid mi6
          have HB6 := Lib.hid B6
          have HD6 := Lib.hid D6
          have HZ6 := Lib.hid Z6
          have HY6 := Lib.hid Y6
          clear mi6 B6 D6 Z6 Y6 NX nb tu6 MP hal MY BY D Z Y hrl
          go_wp2
          go_roundw
          case rel => exact ⟨i + 1, A5, c5, i + 1, sn, rfl, rfl, hlt, rfl, GS.out.symm, hsl, fun _ => HOFF.out, HNB.out, HMI.out, HB6.out, S6, HD6.out, HZ6.out, HY6.out⟩
          case measure => simp [intOf]; omega
    · obtain rfl : i = 20 := by omega
      have hx : ¬ (((20 : Nat) : Int) < 20) := by decide
      obtain ⟨A2, c2, e2, hc2, hst2, -⟩ := Kp.StrsAt.of_own HMN.out.row (by simp)
      simp only [Value.slice.injEq] at e2
      obtain ⟨rfl, -, rfl⟩ := e2
      have hc20 : 20 ≤ c' := by simpa using hc2
      obtain ⟨gb, go, rfl, hg1, hg2⟩ := id hst2
      have cu := hst2.cut (n := 10) (by simp)
      obtain ⟨H1, hH1⟩ : ∃ x, x = Kp.held ((Kp.place (Kp.sees M a)).take 10) := ⟨_, rfl⟩
      obtain ⟨H2, hH2⟩ : ∃ x, x = Kp.held ((Kp.place (Kp.sees M a)).drop 10) := ⟨_, rfl⟩
      have HO1 : Hid (∀ wx, Below wr.heap.size wr wx → Calls Try.prog 41 #[.slice (some ⟨gb, go, none⟩) 10 c'] wx fun e w' => e = .returned (.tuple #[.string ⟨H1.1.toArray⟩, .int .u64 (H1.2 : Nat)]) ∧ Below wx.heap.size wx w') := fun wx hb => by
        rw [hH1, Kp.place_bods1]
        exact r9Holds_any wx _ _ _ (cu.1.low hb) (by simp)
      have HO2 : Hid (∀ wx, Below wr.heap.size wr wx → Calls Try.prog 41 #[.slice (some ⟨gb, go + 10, none⟩) 10 (c' - 10)] wx fun e w' => e = .returned (.tuple #[.string ⟨H2.1.toArray⟩, .int .u64 (H2.2 : Nat)]) ∧ Below wx.heap.size wx w') := fun wx hb => by
        rw [hH2, Kp.place_bods2]
        exact r9Holds_any wx _ _ _ (cu.2.low hb) (by simp)
      have HH1 := Lib.hid hH1
      have HH2 := Lib.hid hH2
      clear hH1 hH2
      obtain ⟨t1, g1⟩ := H1
      obtain ⟨t2, g2⟩ := H2
      have hm' := HM'.out
      subst hm'
      clear cu hst2 hg1 hg2 hc2 x0 x1 x2 x3
      go_upto_region 18 with (go_at_call 41; refine (HO1.out _ (Below.refl _ _)).mono ?_; rintro e w4 ⟨rfl, k4⟩)
      go_upto_region 19 with (go_at_call 41; refine (HO2.out _ k4).mono ?_; rintro e w5 ⟨rfl, k5⟩)
      have k45 := k4.trans (k5.mono k4.size)
      have b5 := HB.out.trans (k45.mono (by omega))
      have z5 := (k45.block (N + 1) (Sm.lt_of HZ.out)).trans HZ.out
      have y5 := (k45.block (N + 2) (Sm.lt_of HY.out)).trans HY.out
      have E0 : Hid (E = 0) := by
        show _ = _
        rw [HE.out, Kp.readErr, HIO.out (by decide), if_neg (by decide), Kp.bad_none HG.out, if_neg (by decide)]
      have HSN2 : Hid (sn = Kp.greatest (Kp.place (Kp.sees M a))) := by
        show _ = _
        rw [HSN.out, List.take_of_length_le (by rw [Kp.place_length]; exact Nat.le_refl _)]
      have B5 := Lib.hid b5
      clear k4 k5 k45 b5
      by_cases c1 : 0 < g1 ∧ g2 ≤ g1
      · have c1a : (0 : Int) < (g1 : Int) := by omega
        have c1b : (g2 : Int) ≤ (g1 : Int) := by omega
        have EV : Hid (OV = #[.int .i64 a, .string ⟨t1.toArray⟩, .int .u64 (g1 : Nat), .int .i64 0, .int .u64 (sn : Nat), .bool false]) := by
          show _ = _
          rw [HOV.out, Kp.kv, Kp.opened, Kp.find, ← HH1.out, ← HH2.out, if_pos c1]
          simp only [← HSN2.out]
          rfl
        have q0 := Sm.cells_of z5 0 _ rfl; have q1 := Sm.cells_of z5 1 _ rfl; have q2 := Sm.cells_of z5 2 _ rfl; have q3 := Sm.cells_of z5 3 _ rfl; have q4 := Sm.cells_of z5 4 _ rfl; have q5 := Sm.cells_of z5 5 _ rfl
        have qf0 := Sm.free_of z5 0; have qf1 := Sm.free_of z5 1; have qf2 := Sm.free_of z5 2; have qf3 := Sm.free_of z5 3; have qf4 := Sm.free_of z5 4; have qf5 := Sm.free_of z5 5
        have v0 := Sm.cells_of y5 0 _ rfl; have v1 := Sm.cells_of y5 1 _ rfl; have v2 := Sm.cells_of y5 2 _ rfl; have v3 := Sm.cells_of y5 3 _ rfl; have v4 := Sm.cells_of y5 4 _ rfl; have v5 := Sm.cells_of y5 5 _ rfl
        have vf0 := Sm.free_of y5 0; have vf1 := Sm.free_of y5 1; have vf2 := Sm.free_of y5 2; have vf3 := Sm.free_of y5 3; have vf4 := Sm.free_of y5 4; have vf5 := Sm.free_of y5 5
        go_wp2_with fail
        exact bodyPost_ret (v := .tuple #[.agg #[.int .i64 a, .string ⟨t1.toArray⟩, .int .u64 (g1 : Nat), .int .i64 0, .int .u64 (sn : Nat), .bool false], .int .i64 0]) ((results_cell_tmp rfl _ _ _).trans (by go_simp)) rfl ⟨by rw [← HNN.out]; exact (((((((((B5.out.setCell (p := ⟨N + 2, 1, none⟩) (Nat.le_add_right N 2) _).setCell (p := ⟨N + 2, 2, none⟩) (Nat.le_add_right N 2) _).setCell (p := ⟨N + 2, 3, none⟩) (Nat.le_add_right N 2) _).setCell (p := ⟨N + 1, 0, none⟩) (Nat.le_succ N) _).setCell (p := ⟨N + 1, 1, none⟩) (Nat.le_succ N) _).setCell (p := ⟨N + 1, 2, none⟩) (Nat.le_succ N) _).setCell (p := ⟨N + 1, 3, none⟩) (Nat.le_succ N) _).setCell (p := ⟨N + 1, 4, none⟩) (Nat.le_succ N) _).setCell (p := ⟨N + 1, 5, none⟩) (Nat.le_succ N) _), .inr ⟨E0.out, by rw [EV.out]⟩⟩
      · by_cases c2 : 0 < g2
        · have c2a : (0 : Int) < (g2 : Int) := by omega
          by_cases c3 : 0 < g1
          · have c3a : (0 : Int) < (g1 : Int) := by omega
            have c3b : ¬ (g2 : Int) ≤ (g1 : Int) := by omega
            have EV : Hid (OV = #[.int .i64 a, .string ⟨t2.toArray⟩, .int .u64 (g2 : Nat), .int .i64 1, .int .u64 (sn : Nat), .bool false]) := by
              show _ = _
              rw [HOV.out, Kp.kv, Kp.opened, Kp.find, ← HH1.out, ← HH2.out, if_neg c1]
              simp only [← HSN2.out]
              rfl
            have q0 := Sm.cells_of z5 0 _ rfl; have q1 := Sm.cells_of z5 1 _ rfl; have q2 := Sm.cells_of z5 2 _ rfl; have q3 := Sm.cells_of z5 3 _ rfl; have q4 := Sm.cells_of z5 4 _ rfl; have q5 := Sm.cells_of z5 5 _ rfl
            have qf0 := Sm.free_of z5 0; have qf1 := Sm.free_of z5 1; have qf2 := Sm.free_of z5 2; have qf3 := Sm.free_of z5 3; have qf4 := Sm.free_of z5 4; have qf5 := Sm.free_of z5 5
            have v0 := Sm.cells_of y5 0 _ rfl; have v1 := Sm.cells_of y5 1 _ rfl; have v2 := Sm.cells_of y5 2 _ rfl; have v3 := Sm.cells_of y5 3 _ rfl; have v4 := Sm.cells_of y5 4 _ rfl; have v5 := Sm.cells_of y5 5 _ rfl
            have vf0 := Sm.free_of y5 0; have vf1 := Sm.free_of y5 1; have vf2 := Sm.free_of y5 2; have vf3 := Sm.free_of y5 3; have vf4 := Sm.free_of y5 4; have vf5 := Sm.free_of y5 5
            go_wp2_with fail
            exact bodyPost_ret (v := .tuple #[.agg #[.int .i64 a, .string ⟨t2.toArray⟩, .int .u64 (g2 : Nat), .int .i64 1, .int .u64 (sn : Nat), .bool false], .int .i64 0]) ((results_cell_tmp rfl _ _ _).trans (by go_simp)) rfl ⟨by rw [← HNN.out]; exact (((((((((B5.out.setCell (p := ⟨N + 2, 1, none⟩) (Nat.le_add_right N 2) _).setCell (p := ⟨N + 2, 2, none⟩) (Nat.le_add_right N 2) _).setCell (p := ⟨N + 2, 3, none⟩) (Nat.le_add_right N 2) _).setCell (p := ⟨N + 1, 0, none⟩) (Nat.le_succ N) _).setCell (p := ⟨N + 1, 1, none⟩) (Nat.le_succ N) _).setCell (p := ⟨N + 1, 2, none⟩) (Nat.le_succ N) _).setCell (p := ⟨N + 1, 3, none⟩) (Nat.le_succ N) _).setCell (p := ⟨N + 1, 4, none⟩) (Nat.le_succ N) _).setCell (p := ⟨N + 1, 5, none⟩) (Nat.le_succ N) _), .inr ⟨E0.out, by rw [EV.out]⟩⟩
          · have c3a : ¬ (0 : Int) < (g1 : Int) := by omega
            have EV : Hid (OV = #[.int .i64 a, .string ⟨t2.toArray⟩, .int .u64 (g2 : Nat), .int .i64 1, .int .u64 (sn : Nat), .bool false]) := by
              show _ = _
              rw [HOV.out, Kp.kv, Kp.opened, Kp.find, ← HH1.out, ← HH2.out, if_neg c1]
              simp only [← HSN2.out]
              rfl
            have q0 := Sm.cells_of z5 0 _ rfl; have q1 := Sm.cells_of z5 1 _ rfl; have q2 := Sm.cells_of z5 2 _ rfl; have q3 := Sm.cells_of z5 3 _ rfl; have q4 := Sm.cells_of z5 4 _ rfl; have q5 := Sm.cells_of z5 5 _ rfl
            have qf0 := Sm.free_of z5 0; have qf1 := Sm.free_of z5 1; have qf2 := Sm.free_of z5 2; have qf3 := Sm.free_of z5 3; have qf4 := Sm.free_of z5 4; have qf5 := Sm.free_of z5 5
            have v0 := Sm.cells_of y5 0 _ rfl; have v1 := Sm.cells_of y5 1 _ rfl; have v2 := Sm.cells_of y5 2 _ rfl; have v3 := Sm.cells_of y5 3 _ rfl; have v4 := Sm.cells_of y5 4 _ rfl; have v5 := Sm.cells_of y5 5 _ rfl
            have vf0 := Sm.free_of y5 0; have vf1 := Sm.free_of y5 1; have vf2 := Sm.free_of y5 2; have vf3 := Sm.free_of y5 3; have vf4 := Sm.free_of y5 4; have vf5 := Sm.free_of y5 5
            go_wp2_with fail
            exact bodyPost_ret (v := .tuple #[.agg #[.int .i64 a, .string ⟨t2.toArray⟩, .int .u64 (g2 : Nat), .int .i64 1, .int .u64 (sn : Nat), .bool false], .int .i64 0]) ((results_cell_tmp rfl _ _ _).trans (by go_simp)) rfl ⟨by rw [← HNN.out]; exact (((((((((B5.out.setCell (p := ⟨N + 2, 1, none⟩) (Nat.le_add_right N 2) _).setCell (p := ⟨N + 2, 2, none⟩) (Nat.le_add_right N 2) _).setCell (p := ⟨N + 2, 3, none⟩) (Nat.le_add_right N 2) _).setCell (p := ⟨N + 1, 0, none⟩) (Nat.le_succ N) _).setCell (p := ⟨N + 1, 1, none⟩) (Nat.le_succ N) _).setCell (p := ⟨N + 1, 2, none⟩) (Nat.le_succ N) _).setCell (p := ⟨N + 1, 3, none⟩) (Nat.le_succ N) _).setCell (p := ⟨N + 1, 4, none⟩) (Nat.le_succ N) _).setCell (p := ⟨N + 1, 5, none⟩) (Nat.le_succ N) _), .inr ⟨E0.out, by rw [EV.out]⟩⟩
        · have c2a : ¬ (0 : Int) < (g2 : Int) := by omega
          have c3a : ¬ (0 : Int) < (g1 : Int) := by omega
          have hn : ((t2, g2) : List UInt8 × Nat) = ([], 0) := by
            rw [HH2.out]
            exact Kp.held_none (by rw [← HH2.out]; show g2 = 0; omega)
          have EV : Hid (OV = #[.int .i64 a, .string ⟨#[]⟩, .int .u64 0, .int .i64 1, .int .u64 (sn : Nat), .bool false]) := by
            show _ = _
            rw [HOV.out, Kp.kv, Kp.opened, Kp.find, ← HH1.out, ← HH2.out, if_neg c1, hn]
            simp only [← HSN2.out]
            rfl
          have q0 := Sm.cells_of z5 0 _ rfl; have q1 := Sm.cells_of z5 1 _ rfl; have q2 := Sm.cells_of z5 2 _ rfl; have q3 := Sm.cells_of z5 3 _ rfl; have q4 := Sm.cells_of z5 4 _ rfl; have q5 := Sm.cells_of z5 5 _ rfl
          have qf0 := Sm.free_of z5 0; have qf1 := Sm.free_of z5 1; have qf2 := Sm.free_of z5 2; have qf3 := Sm.free_of z5 3; have qf4 := Sm.free_of z5 4; have qf5 := Sm.free_of z5 5
          have v0 := Sm.cells_of y5 0 _ rfl; have v1 := Sm.cells_of y5 1 _ rfl; have v2 := Sm.cells_of y5 2 _ rfl; have v3 := Sm.cells_of y5 3 _ rfl; have v4 := Sm.cells_of y5 4 _ rfl; have v5 := Sm.cells_of y5 5 _ rfl
          have vf0 := Sm.free_of y5 0; have vf1 := Sm.free_of y5 1; have vf2 := Sm.free_of y5 2; have vf3 := Sm.free_of y5 3; have vf4 := Sm.free_of y5 4; have vf5 := Sm.free_of y5 5
          go_wp2_with fail
          exact bodyPost_ret (v := .tuple #[.agg #[.int .i64 a, .string ⟨#[]⟩, .int .u64 0, .int .i64 1, .int .u64 (sn : Nat), .bool false], .int .i64 0]) ((results_cell_tmp rfl _ _ _).trans (by go_simp)) rfl ⟨by rw [← HNN.out]; exact ((((((B5.out.setCell (p := ⟨N + 1, 0, none⟩) (Nat.le_succ N) _).setCell (p := ⟨N + 1, 1, none⟩) (Nat.le_succ N) _).setCell (p := ⟨N + 1, 2, none⟩) (Nat.le_succ N) _).setCell (p := ⟨N + 1, 3, none⟩) (Nat.le_succ N) _).setCell (p := ⟨N + 1, 4, none⟩) (Nat.le_succ N) _).setCell (p := ⟨N + 1, 5, none⟩) (Nat.le_succ N) _), .inr ⟨E0.out, by rw [EV.out]⟩⟩
/-- The document's Open, beside the program's. -/
theorem r9Open_any {w : World} {fp : Nat → Prop} {v : Value} {M : Dk.Md} (h : Dk.RefAt w fp v M) (hq : Dk.waits M ≤ 1099511627775) (hM : M.lasts.length ≤ 4096) (a : Int) :
    Calls Try.prog 17 #[v, .int .i64 a] w fun e w' => Below w.heap.size w w' ∧
      ((Kp.openErr M a ≠ 0 ∧ e = .returned (.tuple #[.agg Kp.kz, .int .i64 (Kp.openErr M a)])) ∨ (Kp.openErr M a = 0 ∧ e = .returned (.tuple #[.agg (Kp.kv (Kp.opened (Kp.sees M a) a)), .int .i64 0]))) := by
  by_cases ha : a < 0 ∨ (M.lasts.length : Int) - 20 < a
  · have e : Kp.openErr M a = 1 := by rw [Kp.openErr, if_pos ha]
    rw [e]
    exact (r9Open_arg h hM a ha).mono fun e w' hx => ⟨hx.2, .inl ⟨by decide, hx.1⟩⟩
  · have e : Kp.openErr M a = Kp.readErr M a := by rw [Kp.openErr, if_neg ha]; rfl
    rw [e]
    exact r9Open_in h hq hM a (by omega)
end Go.Proofs.Ytmdhnokgjapglaa
