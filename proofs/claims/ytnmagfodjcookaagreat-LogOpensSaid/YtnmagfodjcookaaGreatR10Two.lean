/-
  Texts that belong together, laid into one.
-/
import Derived.Test.YtnmagfodjcookaaGreatR10At
import Derived.Test.YtnmagfodjcookaaGreatDkRefCrash
import Derived.Test.YtnmagfodjcookaaGreatLgDisk
import Derived.Test.YtnmagfodjcookaaGreatLgTwo
import Derived.Laws.ResultCell
import Derived.BigRegion
import Derived.Laws.AppendOwnNone
/-
  The document's log: Open.
-/
namespace Go.Proofs.YtnmagfodjcookaaGreat
open Go.RowKit
namespace Lg
def lz : Array Value := #[.int .i64 0, .int .i64 0, .int .u64 0, .slice none 0 0, .int .i64 0, .int .u64 0, .int .u64 0, .bool false]

def r10Err (M : Dk.Md) (a : Int) (n : Nat) : Int := if M.off then 14 else if bad n (Kp.sees M a) then 9 else 0
theorem info_r10 : (Tryz.prog.info? 39).map (fun i => (i.zero, i.size)) = some (some (.agg lz), 8) := by kernel_rfl
theorem bad_is {f : Nat → List UInt8} {k n : Nat} (h : k < n) (h2 : (Dk.lookOf (f k)).2 = 2) : bad n f = true := by
  rw [bad, List.any_eq_true]
  exact ⟨k, by simpa using h, by simpa using h2⟩
theorem bad_not {f : Nat → List UInt8} {n : Nat} (h : ∀ j, j < n → (Dk.lookOf (f j)).2 ≠ 2) : bad n f = false := by
  rw [bad, List.any_eq_false]
  intro j hj
  simpa using h j (by simpa using hj)
theorem place_getD {n i : Nat} {f : Nat → List UInt8} (h : i < n) : (place n f).getD i [] = (Dk.lookOf (f i)).1 := by
  rw [List.getD_eq_getElem?_getD, place_get h]; rfl
theorem great_next (f : Nat → List UInt8) {i n : Nat} (hi : i < n) : Pt.greatest 1 ((place n f).take (i + 1)) = max (Pt.greatest 1 ((place n f).take i)) (Pt.number 1 (Dk.lookOf (f i)).1) := by
  rw [Pt.great_take (by rw [place_length]; exact hi), place_getD hi]
theorem number_not {b : List UInt8} (h : (Dk.lookOf b).2 ≠ 1) : Pt.number 1 (Dk.lookOf b).1 = 0 := by
  rw [look_not h]; exact Pt.number_nil 1
theorem sees_read {M : Dk.Md} {a : Int} {n : Nat} (ha : 0 ≤ a ∧ a + n ≤ M.lasts.length) (ho : M.off = false) {i : Nat} (hi : i < n) : Dk.readOf M (a + i) = (Kp.sees M a i, 0) := by
  unfold Dk.readOf
  rw [ho, if_neg (by decide), if_pos (by simp [Dk.there]; omega), Kp.sees, show (a + (i : Int)).toNat = a.toNat + i by omega]
theorem read_ref10 {w : World} {fp : Nat → Prop} {v : Value} {M : Dk.Md} (h : Dk.RefAt w fp v M) (hq : Dk.waits M ≤ 1099511627775) (i : Int) :
    Calls Tryz.prog 50 #[v, .int .i64 i] w fun e w' => e = .returned (.tuple #[.string ⟨(Dk.readOf M i).1.toArray⟩, .int .i64 (Dk.readOf M i).2]) ∧ Below w.heap.size w w' := by
  obtain ⟨A, c, B, d, ws, rfl, h1, h2, h3, _⟩ := h
  rw [Dk.read_like h3]
  exact r7Read_any w 0 A c d B M.lasts ws _ _ h1 h2 (by rw [← h3.count]; omega) i
theorem bods_place (f : Nat → List UInt8) (n u : Nat) : bods (((List.range n).map f).drop u) = (place n f).drop u := by
  rw [bods, place, List.map_drop, List.map_map]; rfl
theorem range_snoc (f : Nat → List UInt8) (i : Nat) : (List.range (i + 1)).map f = (List.range i).map f ++ [f i] := by
  rw [List.range_succ, List.map_append]; rfl
/-- The sectors that a log's block says are used. -/
def usedAt (w : World) (k : Nat) : Nat := match w.cell? ⟨k, 4, none⟩ with
  | some v => (intOf v).toNat
  | none => 0
theorem usedAt_of {w : World} {k n : Nat} (h : w.cell? ⟨k, 4, none⟩ = some (.int .i64 (n : Int))) : usedAt w k = n := by rw [usedAt, h]; simp [intOf]
theorem info_log10 {c : List Value} (h : c.length = 8) : (Tryz.prog.info? 39).map (·.size) = some c.length := by rw [h]; kernel_rfl
theorem Mine.set {B : Nat} {w : World} {f : Nat → Prop} {v : Value} {l : List (List UInt8)} (h : Mine B w f v l) {p : Addr} (hp : f p.block) (x : Value) : Mine B (w.setCell p x) f v l :=
  h.turned ⟨rfl, rfl, rfl, by simp, fun q _ hn => Below.heap_setCell _ _ _ _ (fun e => hn (by rw [e]; exact hp))⟩ fun _ => .inl
theorem Mine.less {B B' : Nat} {w : World} {f f' : Nat → Prop} {v : Value} {l : List (List UInt8)} (h : Mine B w f v l) (hB : B' ≤ B) (hf : ∀ q, f' q → f q) : Mine B' w f' v l := ⟨h.row.mono hB, fun q hq e => h.off q hq (hf q e)⟩
theorem at_is (o : Option (List UInt8 × Nat)) : ∃ (ts : ByteArray) (sv : Nat) (okb : Bool), atRes o = .tuple #[.string ts, .int .u64 (sv : Int), .bool okb] ∧ (okb = false → o = none) ∧ (okb = true → o = some (ts.data.toList, sv)) := by
  cases o with
  | none => exact ⟨⟨#[]⟩, 0, false, rfl, (fun _ => rfl), (fun h => by simp at h)⟩
  | some p => exact ⟨⟨p.1.toArray⟩, p.2, true, rfl, (fun h => by simp at h), (fun _ => rfl)⟩
end Lg
set_option maxRecDepth 100000 in
set_option maxHeartbeats 2000000 in
theorem r10Open_arg {w : World} {fp : Nat → Prop} {v : Value} {M : Dk.Md} (h : Dk.RefAt w fp v M) (hM : M.lasts.length ≤ 4096) (a nn : Int) (ep : Nat) (hb : -9223372036854775808 ≤ nn ∧ nn ≤ 9223372036854775807) (ha : a < 0 ∨ nn < 1 ∨ (M.lasts.length : Int) - nn < a ∨ ep = 0) :
    Calls Tryz.prog 21 #[v, .int .i64 a, .int .i64 nn, .int .u64 ep] w fun e w' => e = .returned (.tuple #[.agg Lg.lz, .int .i64 1]) ∧ Below w.heap.size w w' := by
  obtain ⟨A, c, B, d, ws, rfl, h1, h2, h3, h4, h5, h6⟩ := h
  have hz1 := (zero_of_info Lg.info_r10).1
  simp only [Lg.lz] at hz1
  obtain ⟨n, hn⟩ : ∃ n, n = M.lasts.length := ⟨_, rfl⟩
  rw [← hn] at h1 ha hM ⊢
  obtain ⟨m, hm⟩ : ∃ m, m = ws.length := ⟨_, rfl⟩
  rw [← hm]
  obtain ⟨f, hf⟩ : ∃ f, f = max M.fuse (-1) := ⟨_, rfl⟩
  rw [← hf]
  obtain ⟨ofb, hofb⟩ : ∃ f, f = M.off := ⟨_, rfl⟩
  rw [← hofb]
  clear h1 h2 h3 h4 h5 h6 hn hm hf hofb
  have g1 := heap_alloc_new w (.cells #[.slice A n c, .slice B m d, .int .i64 f, .bool ofb] 33)
  have k1 : Below w.heap.size w (w.alloc (.cells #[.slice A n c, .slice B m d, .int .i64 f, .bool ofb] 33)) := (Below.refl _ w).alloc (Nat.le_refl _) _
  have k2 := k1.alloc k1.size (.cells #[.int .i64 0, .int .i64 0, .int .u64 0, .slice none 0 0, .int .i64 0, .int .u64 0, .int .u64 0, .bool false] 39)
  have g2 := heap_alloc_new (w.alloc (.cells #[.slice A n c, .slice B m d, .int .i64 f, .bool ofb] 33)) (.cells #[.int .i64 0, .int .i64 0, .int .u64 0, .slice none 0 0, .int .i64 0, .int .u64 0, .int .u64 0, .bool false] 39)
  rw [World.size_alloc] at g2
  have K2 := Lib.hid k2
  have x0 := Sm.cells_of g2 0 _ rfl; have x1 := Sm.cells_of g2 1 _ rfl; have x2 := Sm.cells_of g2 2 _ rfl; have x3 := Sm.cells_of g2 3 _ rfl; have x4 := Sm.cells_of g2 4 _ rfl; have x5 := Sm.cells_of g2 5 _ rfl; have x6 := Sm.cells_of g2 6 _ rfl; have x7 := Sm.cells_of g2 7 _ rfl
  clear k2 k1
  by_cases h0 : a < 0
  · go_enter Tryz.func21, Tryz.ntmps21
    go_wp2_with fail
    exact bodyPost_ret (v := .tuple #[.agg Lg.lz, .int .i64 1]) ((results_cell_tmp rfl _ _ _).trans (by go_simp; rfl)) rfl ⟨rfl, K2.out⟩
  by_cases h01 : nn < 1
  · go_enter Tryz.func21, Tryz.ntmps21
    go_wp2_with fail
    exact bodyPost_ret (v := .tuple #[.agg Lg.lz, .int .i64 1]) ((results_cell_tmp rfl _ _ _).trans (by go_simp; rfl)) rfl ⟨rfl, K2.out⟩
  by_cases h02 : (n : Int) < nn
  · go_enter Tryz.func21, Tryz.ntmps21
    go_wp2_with fail
    exact bodyPost_ret (v := .tuple #[.agg Lg.lz, .int .i64 1]) ((results_cell_tmp rfl _ _ _).trans (by go_simp; rfl)) rfl ⟨rfl, K2.out⟩
  have hw : IntKind.i64.wrap ((n : Int) - nn) = (n : Int) - nn := IntWalk.i64_in _ (by omega)
  by_cases h03 : (n : Int) - nn < a
  · go_enter Tryz.func21, Tryz.ntmps21
    go_wp2_with fail
    exact bodyPost_ret (v := .tuple #[.agg Lg.lz, .int .i64 1]) ((results_cell_tmp rfl _ _ _).trans (by go_simp; rfl)) rfl ⟨rfl, K2.out⟩
  have he : ((ep : Int) == 0) = true := beq_iff_eq.2 (by omega)
  go_enter Tryz.func21, Tryz.ntmps21
  go_wp2_with fail
  exact bodyPost_ret (v := .tuple #[.agg Lg.lz, .int .i64 1]) ((results_cell_tmp rfl _ _ _).trans (by go_simp; rfl)) rfl ⟨rfl, K2.out⟩
set_option maxRecDepth 100000 in
set_option maxHeartbeats 8000000 in
theorem r10Open_in {w : World} {fp : Nat → Prop} {v : Value} {M : Dk.Md} (h : Dk.RefAt w fp v M) (hq : Dk.waits M ≤ 1099511627775) (hM : M.lasts.length ≤ 4096) (a : Int) (nn ep : Nat) (hep : 1 ≤ ep ∧ ep < 18446744073709551616) (hnn : 1 ≤ nn) (ha : 0 ≤ a ∧ a + nn ≤ M.lasts.length) :
    Calls Tryz.prog 21 #[v, .int .i64 a, .int .i64 nn, .int .u64 ep] w fun e w' => Below w.heap.size w w' ∧
      ((Lg.r10Err M a nn ≠ 0 ∧ e = .returned (.tuple #[.agg Lg.lz, .int .i64 (Lg.r10Err M a nn)])) ∨
       (Lg.r10Err M a nn = 0 ∧ ∃ A c, e = .returned (.tuple #[.agg #[.int .i64 a, .int .i64 (nn : Int), .int .u64 (ep : Int), .slice A (Lg.found ep (Lg.place nn (Kp.sees M a))).length c, .int .i64 (Lg.used (Lg.found ep (Lg.place nn (Kp.sees M a))) : Int), .int .u64 (Lg.last 0 (Lg.found ep (Lg.place nn (Kp.sees M a))) : Int), .int .u64 (Pt.greatest 1 (Lg.place nn (Kp.sees M a)) : Int), .bool false], .int .i64 0]) ∧
          Lg.Mine w.heap.size w' (fun q => q < w.heap.size) (.slice A (Lg.found ep (Lg.place nn (Kp.sees M a))).length c) ((Lg.found ep (Lg.place nn (Kp.sees M a))).map (·.1)))) := by
  have RR : Hid (∀ (i : Int) (wx : World), Below w.heap.size w wx → Calls Tryz.prog 50 #[v, .int .i64 i] wx fun e w' => e = .returned (.tuple #[.string ⟨(Dk.readOf M i).1.toArray⟩, .int .i64 (Dk.readOf M i).2]) ∧ Below wx.heap.size wx w') := fun i wx hx => Lg.read_ref10 (h.low hx) hq i
  obtain ⟨E, hE⟩ : ∃ E, E = Lg.r10Err M a nn := ⟨_, rfl⟩
  have HE := Lib.hid hE
  obtain ⟨S, hS⟩ : ∃ S, S = Lg.place nn (Kp.sees M a) := ⟨_, rfl⟩
  have HS := Lib.hid hS
  obtain ⟨FO, hFO⟩ : ∃ F, F = Lg.found ep S := ⟨_, rfl⟩
  have HFO := Lib.hid hFO
  rw [← hE, ← hS, ← hFO]
  clear hE hS hFO
  obtain ⟨A, c, B, d, ws, rfl, h1, h2, h3, h4, h5, h6⟩ := h
  have hz1 := (zero_of_info Lg.info_r10).1
  simp only [Lg.lz] at hz1
  have HA := Lib.hid ha
  obtain ⟨n, hn⟩ : ∃ n, n = M.lasts.length := ⟨_, rfl⟩
  rw [← hn] at ha hM RR ⊢
  obtain ⟨m, hm⟩ : ∃ m, m = ws.length := ⟨_, rfl⟩
  rw [← hm] at RR ⊢
  obtain ⟨f, hf⟩ : ∃ f, f = max M.fuse (-1) := ⟨_, rfl⟩
  rw [← hf] at RR ⊢
  obtain ⟨ofb, hofb⟩ : ∃ f, f = M.off := ⟨_, rfl⟩
  rw [← hofb] at RR ⊢
  have hw : IntKind.i64.wrap ((n : Int) - (nn : Int)) = (n : Int) - (nn : Int) := IntWalk.i64_in _ (by omega)
  have p0 : ¬ a < 0 := by omega
  have p1 : ¬ (n : Int) - (nn : Int) < a := by omega
  have p2 : ¬ (nn : Int) < 1 := by omega
  have p3 : ¬ (n : Int) < (nn : Int) := by omega
  have p4 : ((ep : Int) == 0) = false := beq_eq_false_iff_ne.2 (by omega)
  clear h1 h2 h3 h4 h5 h6 hn hm hf hofb hq
  obtain ⟨w2, hw2⟩ : ∃ x, x = (w.alloc (.cells #[.slice A n c, .slice B m d, .int .i64 f, .bool ofb] 33)).alloc (.cells #[.int .i64 0, .int .i64 0, .int .u64 0, .slice none 0 0, .int .i64 0, .int .u64 0, .int .u64 0, .bool false] 39) := ⟨_, rfl⟩
  have b2 : Below w.heap.size w w2 := by rw [hw2]; exact ((Below.refl _ w).alloc (Nat.le_refl _) _).alloc (by simp) _
  have d2 : w2.heap[w.heap.size]? = some (.cells #[.slice A n c, .slice B m d, .int .i64 f, .bool ofb] 33 (0, 0)) := by rw [hw2, Below.heap_alloc _ _ _ (by simp)]; exact heap_alloc_new w _
  have z2 : w2.heap[w.heap.size + 1]? = some (.cells #[.int .i64 0, .int .i64 0, .int .u64 0, .slice none 0 0, .int .i64 0, .int .u64 0, .int .u64 0, .bool false] 39 (0, 0)) := by
    have := heap_alloc_new (w.alloc (.cells #[.slice A n c, .slice B m d, .int .i64 f, .bool ofb] 33)) (.cells #[.int .i64 0, .int .i64 0, .int .u64 0, .slice none 0 0, .int .i64 0, .int .u64 0, .int .u64 0, .bool false] 39)
    rw [World.size_alloc] at this
    rw [hw2]; exact this
  have s2 : w2.heap.size = w.heap.size + 2 := by rw [hw2]; simp
  have HW2 := Lib.hid hw2
  have x0 := Sm.cells_of d2 0 _ rfl
  have B2 := Lib.hid b2
  have D2 := Lib.hid d2
  have Z2 := Lib.hid z2
  clear hw2 b2 d2 z2
  go_enter Tryz.func21, Tryz.ntmps21
  go_upto_region 1 with (fail)
  rw [show (w.alloc (.cells #[.slice A n c, .slice B m d, .int .i64 f, .bool ofb] 33)).alloc (.cells #[.int .i64 0, .int .i64 0, .int .u64 0, .slice none 0 0, .int .i64 0, .int .u64 0, .int .u64 0, .bool false] 39) = w2 from HW2.out.symm]
  go_upto_region 4 with (fail)
  obtain ⟨w3, hw3⟩ : ∃ x, x = w2.alloc (.cells #[.int .i64 a, .int .i64 (nn : Int), .int .u64 (ep : Int), .slice none 0 0, .int .i64 0, .int .u64 0, .int .u64 0, .bool false] 39) := ⟨_, rfl⟩
  have b3 : Below w.heap.size w w3 := by rw [hw3]; exact B2.out.alloc (by omega) _
  have d3 : w3.heap[w.heap.size]? = some (.cells #[.slice A n c, .slice B m d, .int .i64 f, .bool ofb] 33 (0, 0)) := by rw [hw3, Below.heap_alloc _ _ _ (by omega)]; exact D2.out
  have z3 : w3.heap[w.heap.size + 1]? = some (.cells #[.int .i64 0, .int .i64 0, .int .u64 0, .slice none 0 0, .int .i64 0, .int .u64 0, .int .u64 0, .bool false] 39 (0, 0)) := by rw [hw3, Below.heap_alloc _ _ _ (by omega)]; exact Z2.out
  have y3 : w3.heap[w.heap.size + 2]? = some (.cells #[.int .i64 a, .int .i64 (nn : Int), .int .u64 (ep : Int), .slice none 0 0, .int .i64 0, .int .u64 0, .int .u64 ((0 : Nat) : Int), .bool false] 39 (0, 0)) := by
    have := heap_alloc_new w2 (.cells #[.int .i64 a, .int .i64 (nn : Int), .int .u64 (ep : Int), .slice none 0 0, .int .i64 0, .int .u64 0, .int .u64 0, .bool false] 39)
    rw [s2] at this
    rw [hw3]; exact this
  have s3 : w3.heap.size = w.heap.size + 3 := by rw [hw3]; simp [s2]
  rw [← hw3]
  have B3 := Lib.hid b3
  have D3 := Lib.hid d3
  have Z3 := Lib.hid z3
  have Y3 := Lib.hid y3
  have S3 := Lib.hid s3
  obtain ⟨N, hNN⟩ : ∃ N, N = w.heap.size := ⟨_, rfl⟩
  have HNN := Lib.hid hNN
  clear hw3 b3 d3 z3 y3 s3 s2 x0 hz1 B2 D2 Z2 HW2 p0 p1 p2 p3 p4 hw
  rw [← hNN] at RR B3 D3 Z3 Y3 S3 ⊢
  clear hNN
  go_wp2_with fail
  go_loopw [11, 12] (fun s7 s8 wr => ∃ (i : Nat) (A' : Option Addr) (c' m' sn : Nat), s7 = .slice A' m' c' ∧ s8 = .int .i64 i ∧ i ≤ nn ∧ m' = i ∧ sn = Pt.greatest 1 (S.take i) ∧ sn < 18446744073709551616 ∧ (1 ≤ i → M.off = false) ∧ (∀ j, j < i → (Dk.lookOf (Kp.sees M a j)).2 ≠ 2) ∧
      Lg.Mine (N + 3) wr (fun q => q < N + 3) (.slice A' m' c') ((List.range i).map (Kp.sees M a)) ∧ Below N w wr ∧ N + 3 ≤ wr.heap.size ∧
      wr.heap[N]? = some (.cells #[.slice A n c, .slice B m d, .int .i64 f, .bool ofb] 33 (0, 0)) ∧
      wr.heap[N + 1]? = some (.cells #[.int .i64 0, .int .i64 0, .int .u64 0, .slice none 0 0, .int .i64 0, .int .u64 0, .int .u64 0, .bool false] 39 (0, 0)) ∧
      wr.heap[N + 2]? = some (.cells #[.int .i64 a, .int .i64 (nn : Int), .int .u64 (ep : Int), .slice none 0 0, .int .i64 0, .int .u64 0, .int .u64 (sn : Int), .bool false] 39 (0, 0))) (fun _ s8 _ => nn - (intOf s8).toNat)
  case atStart => exact ⟨0, none, 0, 0, 0, rfl, rfl, Nat.zero_le _, rfl, rfl, by decide, fun h => by omega, fun j hj => by omega, Lg.Mine.nil _ _ _, B3.out, Nat.le_of_eq S3.out.symm, D3.out, Z3.out, Y3.out⟩
  case round =>
    obtain ⟨i, A', c', m', sn, rfl, rfl, hi, hm', hsn, hsl, hio, hgood, hmine, hb, hsz, hd, hz, hy⟩ := hrel
    have HM' := Lib.hid hm'
    have HSN := Lib.hid hsn
    have HIO := Lib.hid hio
    have HG := Lib.hid hgood
    have HMN := Lib.hid hmine
    have HB := Lib.hid hb
    have HD := Lib.hid hd
    have HZ := Lib.hid hz
    have HY := Lib.hid hy
    have x0 := Sm.cells_of hd 0 _ rfl
    have x1 := Sm.cells_of hd 1 _ rfl
    have x2 := Sm.cells_of hd 2 _ rfl
    have x3 := Sm.cells_of hd 3 _ rfl
    clear hm' hsn hio hgood hmine hb hd hz hy
    by_cases hlt : i < nn
    · have hki : (i : Int) < (nn : Int) := by omega
      have hsuc : IntKind.i64.wrap ((i : Int) + 1) = ((i + 1 : Nat) : Int) := by rw [IntWalk.i64_in _ (by omega)]; omega
      have hai : IntKind.i64.wrap (a + (i : Int)) = a + (i : Int) := IntWalk.i64_in _ (by omega)
      have RD := Lib.hid (RR.out (a + (i : Int)) _ HB.out)
      by_cases hoff : M.off = true
      · have e1 : Dk.readOf M (a + (i : Int)) = ([], 14) := by unfold Dk.readOf; rw [hoff]; rfl
        rw [e1] at RD
        have e2 : Hid (E = 14) := by show _ = _; rw [HE.out, Lg.r10Err, hoff]; rfl
        clear e1 hoff hsuc
        go_wp2_with (go_at_call 50; refine RD.out.mono ?_; rintro e w4 ⟨rfl, k4⟩; have z4 := (k4.block (N + 1) (Sm.lt_of HZ.out)).trans HZ.out; have q0 := Sm.cells_of z4 0 _ rfl; have q1 := Sm.cells_of z4 1 _ rfl; have q2 := Sm.cells_of z4 2 _ rfl; have q3 := Sm.cells_of z4 3 _ rfl; have q4 := Sm.cells_of z4 4 _ rfl; have q5 := Sm.cells_of z4 5 _ rfl; have q6 := Sm.cells_of z4 6 _ rfl; have q7 := Sm.cells_of z4 7 _ rfl; have r0_ := Sm.free_of z4 0; have r1_ := Sm.free_of z4 1; have r2_ := Sm.free_of z4 2; have r3_ := Sm.free_of z4 3; have r4_ := Sm.free_of z4 4; have r5_ := Sm.free_of z4 5; have r6_ := Sm.free_of z4 6; have r7_ := Sm.free_of z4 7)
        exact bodyPost_ret (v := .tuple #[.agg Lg.lz, .int .i64 14]) ((results_cell_tmp rfl _ _ _).trans (by go_simp; rfl)) rfl ⟨by rw [← HNN.out]; have b4 := HB.out.trans (k4.mono (by omega)); exact ((((((((b4.setCell (p := ⟨N + 1, 0, none⟩) (Nat.le_succ N) _).setCell (p := ⟨N + 1, 1, none⟩) (Nat.le_succ N) _).setCell (p := ⟨N + 1, 2, none⟩) (Nat.le_succ N) _).setCell (p := ⟨N + 1, 3, none⟩) (Nat.le_succ N) _).setCell (p := ⟨N + 1, 4, none⟩) (Nat.le_succ N) _).setCell (p := ⟨N + 1, 5, none⟩) (Nat.le_succ N) _).setCell (p := ⟨N + 1, 6, none⟩) (Nat.le_succ N) _).setCell (p := ⟨N + 1, 7, none⟩) (Nat.le_succ N) _), .inl ⟨by rw [e2.out]; decide, by rw [e2.out]⟩⟩
      · have hof : M.off = false := by simpa using hoff
        obtain ⟨zs, hzs⟩ : ∃ b : ByteArray, b = ⟨(Kp.sees M a i).toArray⟩ := ⟨_, rfl⟩
        have hzl : zs.data.toList = Kp.sees M a i := by rw [hzs]
        rw [Lg.sees_read HA.out hof hlt, ← hzs] at RD
        have LO : Hid (∀ wx : World, Calls Tryz.prog 51 #[.string zs] wx fun e w' => e = .returned (.tuple #[.string ⟨(Dk.lookOf (Kp.sees M a i)).1.toArray⟩, .int .i64 (Dk.lookOf (Kp.sees M a i)).2]) ∧ Below wx.heap.size wx w') := fun wx => by rw [← hzl]; exact r7Look_any wx zs
        obtain ⟨bs, hbs⟩ : ∃ b : ByteArray, b = ⟨(Dk.lookOf (Kp.sees M a i)).1.toArray⟩ := ⟨_, rfl⟩
        have hbl : bs.data.toList = (Dk.lookOf (Kp.sees M a i)).1 := by rw [hbs]
        obtain ⟨st, hst⟩ : ∃ z, z = (Dk.lookOf (Kp.sees M a i)).2 := ⟨_, rfl⟩
        rw [← hbs, ← hst] at LO
        have HST := Lib.hid hst
        have HBL := Lib.hid hbl
        have HZL := Lib.hid hzl
        have HOFF := Lib.hid hof
        clear hoff hof hzs hzl hbs hbl hst
        go_upto_region 12 with (first
          | (go_at_call 50; refine RD.out.mono ?_; rintro e w4 ⟨rfl, k4⟩)
          | (go_at_call 51; refine (LO.out _).mono ?_; rintro e w5 ⟨rfl, k5⟩))
        have k45 := k4.trans (k5.mono k4.size)
        have b5 := HB.out.trans (k45.mono (by omega))
        have z4 := (k45.block (N + 1) (Sm.lt_of HZ.out)).trans HZ.out
        have d5 := (k45.block N (Sm.lt_of HD.out)).trans HD.out
        have y5 := (k45.block (N + 2) (Sm.lt_of HY.out)).trans HY.out
        have mn5 := HMN.out.low k45
        have hsz5 := k45.size
        by_cases hs2 : st = 2
        · have e2 : Hid (E = 9) := by
            show _ = _
            rw [HE.out, Lg.r10Err, HOFF.out, if_neg (by decide), if_pos (Lg.bad_is hlt (by rw [← HST.out]; exact hs2))]
          subst hs2
          have q0 := Sm.cells_of z4 0 _ rfl; have q1 := Sm.cells_of z4 1 _ rfl; have q2 := Sm.cells_of z4 2 _ rfl; have q3 := Sm.cells_of z4 3 _ rfl; have q4 := Sm.cells_of z4 4 _ rfl; have q5 := Sm.cells_of z4 5 _ rfl; have q6 := Sm.cells_of z4 6 _ rfl; have q7 := Sm.cells_of z4 7 _ rfl; have r0_ := Sm.free_of z4 0; have r1_ := Sm.free_of z4 1; have r2_ := Sm.free_of z4 2; have r3_ := Sm.free_of z4 3; have r4_ := Sm.free_of z4 4; have r5_ := Sm.free_of z4 5; have r6_ := Sm.free_of z4 6; have r7_ := Sm.free_of z4 7
          go_wp2_with fail
          exact bodyPost_ret (v := .tuple #[.agg Lg.lz, .int .i64 9]) ((results_cell_tmp rfl _ _ _).trans (by go_simp; rfl)) rfl ⟨by rw [← HNN.out]; exact ((((((((b5.setCell (p := ⟨N + 1, 0, none⟩) (Nat.le_succ N) _).setCell (p := ⟨N + 1, 1, none⟩) (Nat.le_succ N) _).setCell (p := ⟨N + 1, 2, none⟩) (Nat.le_succ N) _).setCell (p := ⟨N + 1, 3, none⟩) (Nat.le_succ N) _).setCell (p := ⟨N + 1, 4, none⟩) (Nat.le_succ N) _).setCell (p := ⟨N + 1, 5, none⟩) (Nat.le_succ N) _).setCell (p := ⟨N + 1, 6, none⟩) (Nat.le_succ N) _).setCell (p := ⟨N + 1, 7, none⟩) (Nat.le_succ N) _), .inl ⟨by rw [e2.out]; decide, by rw [e2.out]⟩⟩
        have hs2b : (st == 2) = false := beq_eq_false_iff_ne.2 hs2
        have HNB : Hid (∀ j, j < i + 1 → (Dk.lookOf (Kp.sees M a j)).2 ≠ 2) := fun j hj => by
          by_cases hji : j < i
          · exact HG.out j hji
          · have : j = i := by omega
            rw [this, ← HST.out]; exact hs2
        have v4 := Sm.cells_of y5 6 _ rfl
        have v4f := Sm.free_of y5 6
        by_cases hs1 : st = 1
        · have h60 : bs.size = 60 := by
            have := congrArg List.length HBL.out
            rw [(Lg.look_is (HST.out.symm.trans hs1)).2] at this
            simpa using this
          obtain ⟨x, hx⟩ : ∃ x, x = Pt.number 1 bs.data.toList := ⟨_, rfl⟩
          have GE : Hid (∀ wx, Calls Tryz.prog 52 #[.string bs, .int .i64 8] wx fun e w' => e = .returned (.int .u64 (x : Nat)) ∧ wx = w') := fun wx => by rw [hx]; exact r10number_any wx bs h60 8 (by decide)
          have hxl : x < 18446744073709551616 := by rw [hx]; exact Pt.number_lt 1 _
          have GS : Hid (Pt.greatest 1 (S.take (i + 1)) = max sn x) := by
            show _ = _
            rw [HS.out, Lg.great_next _ hlt, ← HS.out, ← HSN.out, ← HBL.out, ← hx]
          have HXL := Lib.hid hxl
          clear hx h60
          subst hs1
          have GQ : Hid (∀ wx, Calls Tryz.prog 52 #[.string bs, .int .i64 8] wx fun e w' => e = .returned (.int .u64 (x : Nat)) ∧ w' = wx) := fun wx => (GE.out wx).mono fun _ _ h => ⟨h.1, h.2.symm⟩
          by_cases hgt : sn < x
          · have hgi : (sn : Int) < (x : Int) := by omega
            go_upto_region 14 with (fail)
            go_quiet ((go_at_call 52; with_reducible exact Calls.quiet_of_same (GQ.out _)))
            go_upto_region 16 with (go_at_call 52; refine (GE.out _).mono ?_; rintro e w9 ⟨rfl, rfl⟩)
            obtain ⟨wy, hwy⟩ : ∃ y, y = (w5.drewN nq).setCell ⟨N + 2, 6, none⟩ (.int .u64 (x : Int)) := ⟨_, rfl⟩
            have Y : wy.heap[N + 2]? = some (.cells #[.int .i64 a, .int .i64 (nn : Int), .int .u64 (ep : Int), .slice none 0 0, .int .i64 0, .int .u64 0, .int .u64 (x : Int), .bool false] 39 (0, 0)) := by rw [hwy]; exact Sm.heap_set (w := w5.drewN nq) y5 6 _
            have D : wy.heap[N]? = some (.cells #[.slice A n c, .slice B m d, .int .i64 f, .bool ofb] 33 (0, 0)) := by rw [hwy, Below.heap_setCell _ _ _ _ (by simp)]; exact d5
            have Z : wy.heap[N + 1]? = some (.cells #[.int .i64 0, .int .i64 0, .int .u64 0, .slice none 0 0, .int .i64 0, .int .u64 0, .int .u64 0, .bool false] 39 (0, 0)) := by rw [hwy, Below.heap_setCell _ _ _ _ (by simp)]; exact z4
            have MY : Lg.Mine (N + 3) wy (fun q => q < N + 3) (.slice A' m' c') (List.map (Kp.sees M a) (List.range i)) := by rw [hwy]; exact mn5.turned ⟨rfl, rfl, rfl, by simp, fun q _ hn => Below.heap_setCell _ _ _ _ (by simp; omega)⟩ fun _ => .inl
            have BY : Below N w wy := by rw [hwy]; exact (Sm.below_drewN b5 nq).setCell (p := ⟨N + 2, 6, none⟩) (by simp) _
            have SY : N + 3 ≤ wy.heap.size := by rw [hwy]; simp; omega
            rw [← hwy]
            clear hwy
            have hal := (Below.refl wy.heap.size wy).alloc (Nat.le_refl _) (.cells #[.string zs] 9)
            have MP := Lib.hid (MY.low hal)
            go_upto_region 7 with (at_builtin; refine Lg.wp_more rfl _ _ rfl rfl MP.out rfl (Sm.cells_of (heap_alloc_new wy _) 0 _ rfl) (by simp; omega) (by simp; omega) (fun q hq => by simp; omega) fun A5 c5 w6 mi6 tu6 => ?_)
            have hrl : (List.map (Kp.sees M a) (List.range i)).length = i := by simp
            rw [hrl] at mi6
            have nb : ∀ q, q < N + 3 → ¬ (Value.slice A' m' c').ownBlock = some q := fun q hq e => MP.out.off q e hq
            have NX : ∀ q ob, q < N + 3 → wy.heap[q]? = some ob → w6.heap[q]? = some ob := fun q ob hq e => (tu6.block q (by simp; omega) (nb q hq)).trans ((hal.block q (by omega)).trans e)
            have B6 : Below N w w6 := BY.trans ((hal.mono (by omega)).trans (tu6.below (fun q e => Nat.le_of_lt (Nat.lt_of_not_le fun h => nb q (by omega) e)) (by simp; omega)))
            have D6 := NX N _ (by omega) D
            have Z6 := NX (N + 1) _ (by omega) Z
            have Y6 := NX (N + 2) _ (by omega) Y
            have S6 : N + 3 ≤ w6.heap.size := by have := tu6.size; simp at this; omega
            rw [HZL.out, ← Lg.range_snoc] at mi6
            have HMI := Lib.hid mi6
            have HB6 := Lib.hid B6
            have HD6 := Lib.hid D6
            have HZ6 := Lib.hid Z6
            have HY6 := Lib.hid Y6
            clear mi6 B6 D6 Z6 Y6 NX nb tu6 MP hal MY BY D Z Y hrl
            go_wp2
            go_roundw
            case rel => exact ⟨i + 1, A5, c5, i + 1, x, rfl, rfl, hlt, rfl, by rw [GS.out]; exact (Nat.max_eq_right (Nat.le_of_lt hgt)).symm, HXL.out, fun _ => HOFF.out, HNB.out, HMI.out, HB6.out, S6, HD6.out, HZ6.out, HY6.out⟩
            case measure => simp [intOf]; omega
          · have hgi : ¬ (sn : Int) < (x : Int) := by omega
            go_upto_region 14 with (fail)
            go_quiet ((go_at_call 52; with_reducible exact Calls.quiet_of_same (GQ.out _)))
            go_upto_region 16 with (fail)
            obtain ⟨wy, hwy⟩ : ∃ y, y = w5.drewN nq := ⟨_, rfl⟩
            have Y : wy.heap[N + 2]? = some (.cells #[.int .i64 a, .int .i64 (nn : Int), .int .u64 (ep : Int), .slice none 0 0, .int .i64 0, .int .u64 0, .int .u64 (sn : Int), .bool false] 39 (0, 0)) := by rw [hwy]; exact y5
            have D : wy.heap[N]? = some (.cells #[.slice A n c, .slice B m d, .int .i64 f, .bool ofb] 33 (0, 0)) := by rw [hwy]; exact d5
            have Z : wy.heap[N + 1]? = some (.cells #[.int .i64 0, .int .i64 0, .int .u64 0, .slice none 0 0, .int .i64 0, .int .u64 0, .int .u64 0, .bool false] 39 (0, 0)) := by rw [hwy]; exact z4
            have MY : Lg.Mine (N + 3) wy (fun q => q < N + 3) (.slice A' m' c') (List.map (Kp.sees M a) (List.range i)) := by rw [hwy]; exact mn5.turned ⟨rfl, rfl, rfl, Nat.le_refl _, fun _ _ _ => rfl⟩ fun _ => .inl
            have BY : Below N w wy := by rw [hwy]; exact Sm.below_drewN b5 nq
            have SY : N + 3 ≤ wy.heap.size := by rw [hwy]; simp; omega
            rw [← hwy]
            clear hwy
            have hal := (Below.refl wy.heap.size wy).alloc (Nat.le_refl _) (.cells #[.string zs] 9)
            have MP := Lib.hid (MY.low hal)
            go_upto_region 7 with (at_builtin; refine Lg.wp_more rfl _ _ rfl rfl MP.out rfl (Sm.cells_of (heap_alloc_new wy _) 0 _ rfl) (by simp; omega) (by simp; omega) (fun q hq => by simp; omega) fun A5 c5 w6 mi6 tu6 => ?_)
            have hrl : (List.map (Kp.sees M a) (List.range i)).length = i := by simp
            rw [hrl] at mi6
            have nb : ∀ q, q < N + 3 → ¬ (Value.slice A' m' c').ownBlock = some q := fun q hq e => MP.out.off q e hq
            have NX : ∀ q ob, q < N + 3 → wy.heap[q]? = some ob → w6.heap[q]? = some ob := fun q ob hq e => (tu6.block q (by simp; omega) (nb q hq)).trans ((hal.block q (by omega)).trans e)
            have B6 : Below N w w6 := BY.trans ((hal.mono (by omega)).trans (tu6.below (fun q e => Nat.le_of_lt (Nat.lt_of_not_le fun h => nb q (by omega) e)) (by simp; omega)))
            have D6 := NX N _ (by omega) D
            have Z6 := NX (N + 1) _ (by omega) Z
            have Y6 := NX (N + 2) _ (by omega) Y
            have S6 : N + 3 ≤ w6.heap.size := by have := tu6.size; simp at this; omega
            rw [HZL.out, ← Lg.range_snoc] at mi6
            have HMI := Lib.hid mi6
            have HB6 := Lib.hid B6
            have HD6 := Lib.hid D6
            have HZ6 := Lib.hid Z6
            have HY6 := Lib.hid Y6
            clear mi6 B6 D6 Z6 Y6 NX nb tu6 MP hal MY BY D Z Y hrl
            go_wp2
            go_roundw
            case rel => exact ⟨i + 1, A5, c5, i + 1, sn, rfl, rfl, hlt, rfl, by rw [GS.out]; exact (Nat.max_eq_left (Nat.le_of_not_lt hgt)).symm, hsl, fun _ => HOFF.out, HNB.out, HMI.out, HB6.out, S6, HD6.out, HZ6.out, HY6.out⟩
            case measure => simp [intOf]; omega
        · have hs1b : (st == 1) = false := beq_eq_false_iff_ne.2 hs1
          go_upto_region 14 with (fail)
          go_quiet (fail)
          go_upto_region 16 with (fail)
          have GS : Hid (Pt.greatest 1 (S.take (i + 1)) = sn) := by
            show _ = _
            rw [HS.out, Lg.great_next _ hlt, ← HS.out, ← HSN.out, Lg.number_not (by rw [← HST.out]; exact hs1), Nat.max_eq_left (Nat.zero_le _)]
          obtain ⟨wy, hwy⟩ : ∃ y, y = w5.drewN nq := ⟨_, rfl⟩
          have Y : wy.heap[N + 2]? = some (.cells #[.int .i64 a, .int .i64 (nn : Int), .int .u64 (ep : Int), .slice none 0 0, .int .i64 0, .int .u64 0, .int .u64 (sn : Int), .bool false] 39 (0, 0)) := by rw [hwy]; exact y5
          have D : wy.heap[N]? = some (.cells #[.slice A n c, .slice B m d, .int .i64 f, .bool ofb] 33 (0, 0)) := by rw [hwy]; exact d5
          have Z : wy.heap[N + 1]? = some (.cells #[.int .i64 0, .int .i64 0, .int .u64 0, .slice none 0 0, .int .i64 0, .int .u64 0, .int .u64 0, .bool false] 39 (0, 0)) := by rw [hwy]; exact z4
          have MY : Lg.Mine (N + 3) wy (fun q => q < N + 3) (.slice A' m' c') (List.map (Kp.sees M a) (List.range i)) := by rw [hwy]; exact mn5.turned ⟨rfl, rfl, rfl, Nat.le_refl _, fun _ _ _ => rfl⟩ fun _ => .inl
          have BY : Below N w wy := by rw [hwy]; exact Sm.below_drewN b5 nq
          have SY : N + 3 ≤ wy.heap.size := by rw [hwy]; simp; omega
          rw [← hwy]
          clear hwy
          have hal := (Below.refl wy.heap.size wy).alloc (Nat.le_refl _) (.cells #[.string zs] 9)
          have MP := Lib.hid (MY.low hal)
          go_upto_region 7 with (at_builtin; refine Lg.wp_more rfl _ _ rfl rfl MP.out rfl (Sm.cells_of (heap_alloc_new wy _) 0 _ rfl) (by simp; omega) (by simp; omega) (fun q hq => by simp; omega) fun A5 c5 w6 mi6 tu6 => ?_)
          have hrl : (List.map (Kp.sees M a) (List.range i)).length = i := by simp
          rw [hrl] at mi6
          have nb : ∀ q, q < N + 3 → ¬ (Value.slice A' m' c').ownBlock = some q := fun q hq e => MP.out.off q e hq
          have NX : ∀ q ob, q < N + 3 → wy.heap[q]? = some ob → w6.heap[q]? = some ob := fun q ob hq e => (tu6.block q (by simp; omega) (nb q hq)).trans ((hal.block q (by omega)).trans e)
          have B6 : Below N w w6 := BY.trans ((hal.mono (by omega)).trans (tu6.below (fun q e => Nat.le_of_lt (Nat.lt_of_not_le fun h => nb q (by omega) e)) (by simp; omega)))
          have D6 := NX N _ (by omega) D
          have Z6 := NX (N + 1) _ (by omega) Z
          have Y6 := NX (N + 2) _ (by omega) Y
          have S6 : N + 3 ≤ w6.heap.size := by have := tu6.size; simp at this; omega
          rw [HZL.out, ← Lg.range_snoc] at mi6
          have HMI := Lib.hid mi6
          have HB6 := Lib.hid B6
          have HD6 := Lib.hid D6
          have HZ6 := Lib.hid Z6
          have HY6 := Lib.hid Y6
          clear mi6 B6 D6 Z6 Y6 NX nb tu6 MP hal MY BY D Z Y hrl
          go_wp2
          go_roundw
          case rel => exact ⟨i + 1, A5, c5, i + 1, sn, rfl, rfl, hlt, rfl, GS.out.symm, hsl, fun _ => HOFF.out, HNB.out, HMI.out, HB6.out, S6, HD6.out, HZ6.out, HY6.out⟩
          case measure => simp [intOf]; omega
    · have hki : ¬ (i : Int) < (nn : Int) := by omega
      have hin : i = nn := by omega
      subst hin
      have hrl : (List.map (Kp.sees M a) (List.range i)).length = i := by simp
      obtain ⟨A2, c2, e2, hc2, hst2, hown⟩ := Kp.StrsAt.of_own HMN.out.row (by intro e; have := congrArg List.length e; rw [hrl] at this; simp at this; omega)
      simp only [Value.slice.injEq] at e2
      obtain ⟨rfl, -, rfl⟩ := e2
      rw [hrl] at hc2
      obtain ⟨gb, go, rfl, hg1, hg2⟩ := id hst2
      have hgbN : N + 3 ≤ gb := hown gb (by simp [Value.ownBlock])
      have hm' := HM'.out.symm
      subst hm'
      have BDS : Hid (∀ u, Lg.bods ((List.map (Kp.sees M a) (List.range i)).drop u) = S.drop u) := fun u => by rw [HS.out]; exact Lg.bods_place _ _ _
      have HST2 := Lib.hid hst2
      obtain ⟨R, hR⟩ : ∃ R, R = List.map (Kp.sees M a) (List.range i) := ⟨_, rfl⟩
      rw [← hR] at BDS HST2 hrl
      have hSl : S.length = i := by rw [HS.out, Lg.place_length]
      have E0 : Hid (E = 0) := by
        show _ = _
        rw [HE.out, Lg.r10Err, HIO.out hnn, if_neg (by decide), Lg.bad_not HG.out, if_neg (by decide)]
      have HSN2 : Hid (sn = Pt.greatest 1 S) := by
        show _ = _
        rw [HSN.out, List.take_of_length_le (by omega)]
      have HSL2 := Lib.hid hSl
      clear hR hst2 hg2 hown x0 x1 x2 x3 HG HMN HIO HM' HSN
      obtain ⟨W1, hW1⟩ : ∃ W, W = wr := ⟨_, rfl⟩
      subst hW1
      have LASTLT : ∀ Rs T, Lg.Left ep S Rs T → Lg.last 0 Rs < 18446744073709551616 := fun Rs T h => h.last
      go_wp2_with fail
      go_loopw [19] (fun s19 wx => ∃ (Rs : List (List UInt8 × Nat)) (T : List (List UInt8)) (A5 : Option Addr) (c5 ln x la : Nat), Lg.Left ep S Rs T ∧ ln = Rs.length ∧ x = Lg.used Rs ∧ la = Lg.last 0 Rs ∧
          Lg.Mine (N + 3) wx (fun q => q < W1.heap.size) (.slice A5 ln c5) (Rs.map (·.1)) ∧ Dk.Turned (fun q => q = N + 2) W1 wx ∧
          wx.heap[N + 2]? = some (.cells #[.int .i64 a, .int .i64 (i : Int), .int .u64 (ep : Int), .slice A5 ln c5, .int .i64 (x : Int), .int .u64 (la : Int), .int .u64 (sn : Int), .bool false] 39 (0, 0))) (fun _ wx => i - Lg.usedAt wx (N + 2))
      case atStart => exact ⟨[], S, none, 0, 0, 0, 0, ⟨rfl, by simp⟩, rfl, rfl, rfl, Lg.Mine.nil _ _ _, Dk.Turned.refl _ _, HY.out⟩
      case round =>
        obtain ⟨Rs, T, A5, c5, ln, x, la, hleft, hln, hx, hla, hmine, htu, hy⟩ := hrel
        have HL := Lib.hid hleft
        have HLN := Lib.hid hln
        have HX := Lib.hid hx
        have HLA := Lib.hid hla
        have HMI := Lib.hid hmine
        have HT := Lib.hid htu
        have HYY := Lib.hid hy
        have hus := hleft.used
        have hlast := LASTLT Rs T hleft
        have hrcs := hleft.recs
        have hTS : T = S.drop x := by rw [hx]; exact hleft.drop
        have hsz := htu.size
        clear hleft hmine htu hln
        have hxi : x ≤ i := by omega
        obtain ⟨lg, hlg⟩ : ∃ l : List Value, l = [.int .i64 a, .int .i64 (i : Int), .int .u64 (ep : Int), .slice A5 ln c5, .int .i64 (x : Int), .int .u64 (la : Int), .int .u64 (sn : Int), .bool false] := ⟨_, rfl⟩
        have HLG := Lib.hid hlg
        have hlg8 : lg.length = 8 := by rw [hlg]; rfl
        obtain ⟨ts, sv, okb, hAR, hNo, hYes⟩ := Lg.at_is (Lg.first ep la T)
        obtain ⟨sl, hsl2⟩ : ∃ v, v = Value.slice (some ⟨gb, if c' = x then go else go + x, none⟩) (i - x) (c' - x) := ⟨_, rfl⟩
        have HSL := Lib.hid hsl2
        have AT : Hid (∀ wx, Below wr.heap.size wr wx → Calls Tryz.prog 53 #[.agg lg.toArray, sl] wx fun e w' => e = .returned (.tuple #[.string ts, .int .u64 (sv : Int), .bool okb]) ∧ Below wx.heap.size wx w') := fun wx hb => by
          have hrow : Lg.Rows wx (some ⟨gb, if c' = x then go else go + x, none⟩) (R.drop x) := by
            by_cases h0 : x = i
            · exact .inl (List.drop_eq_nil_of_le (by omega))
            · refine .inr ?_
              have h1 : Kp.StrsAt wr (some ⟨gb, go, none⟩) R := by
                obtain ⟨g', o', e1, h1, h2⟩ := HST2.out
                have e2 := e1
                simp only [Option.some.injEq, Addr.mk.injEq, and_true] at e2
                obtain ⟨rfl, rfl⟩ := e2
                refine ⟨gb, go, rfl, Nat.lt_of_lt_of_le h1 hsz, fun j hj => ?_⟩
                rw [← h2 j hj]
                simp only [World.cell?, HT.out.block gb h1 (by omega)]
              rw [if_neg (by omega)]
              exact (h1.drop x).below hb (Nat.le_refl _)
          have h := r10at_any wx a i ep A5 ln c5 x la sn false hep.2 (by rw [hla]; exact hlast) (some ⟨gb, if c' = x then go else go + x, none⟩) (c' - x) (R.drop x) hrow (by rw [List.length_drop]; omega)
          rw [List.length_drop, hrl, BDS.out, ← hTS, hAR] at h
          rw [hlg, hsl2]
          exact h
        have HNO := Lib.hid hNo
        have HYES := Lib.hid hYes
        have Y0 := hy
        have hxc : (x : Int) ≤ (c' : Int) := by omega
        have hx0 : ¬ (x : Int) < 0 := by omega
        have hx00 : (0 : Int) ≤ (x : Int) := by omega
        have hxi2 : (x : Int) ≤ (i : Int) := by omega
        have hxi3 : ¬ (i : Int) < (x : Int) := by omega
        clear hlg hsl2 hAR hNo hYes hTS hx hla hy
        have BD : Below wr.heap.size wr wr.drew := ⟨rfl, rfl, rfl, Nat.le_refl _, fun _ _ => rfl⟩
        have YD : wr.drew.heap[N + 2]? = some (.cells #[.int .i64 a, .int .i64 (i : Int), .int .u64 (ep : Int), .slice A5 ln c5, .int .i64 (x : Int), .int .u64 (la : Int), .int .u64 (sn : Int), .bool false] 39 (0, 0)) := Y0
        go_upto_region 17 with (fail)
        refine wp_region_held_drew (S := (fun w' => w'.heap[N + 2]? = some (.cells #[.int .i64 a, .int .i64 (i : Int), .int .u64 (ep : Int), .slice A5 ln c5, .int .i64 (x : Int), .int .u64 (la : Int), .int .u64 (sn : Int), .bool false] 39 (0, 0)))) (by kernel_rfl) Y0 (fun hHeld => ?_)
        generalize hwd : wr.drew = wd at *
        refine wpAnyH_take (i := 0) (oi := ⟨some 93, _, _, _, _, _⟩) (v := .agg lg.toArray) rfl (by kernel_rfl) (by kernel_rfl) (by kernel_rfl) (fun _ _ _ h => h) (yieldsIf_load_mid (by rfl) _ _ rfl _ _ rfl lg _ (fun w hS => (by rw [HLG.out]; exact Sm.range_row hS)) Tryz.underlying39 rfl (Lg.info_log10 hlg8)) (by assumption) ?_
        simp only [Act.put, List.setIfInBounds_toArray, List.set_cons_zero, List.set_cons_succ]
        refine wpAnyH_take (i := 1) (oi := ⟨some 94, _, _, _, _, _⟩) (v := .slice (some ⟨gb, go, none⟩) i c') rfl (by kernel_rfl) (by kernel_rfl) (by kernel_rfl) (fun _ _ _ h => h) (Or.inl ⟨by rfl, ?_⟩) (by assumption) ?_
        · intro w hSw; (try dsimp only at hSw); go_simp
        simp only [Act.put, List.setIfInBounds_toArray, List.set_cons_zero, List.set_cons_succ]
        refine wpAnyH_take (i := 2) (oi := ⟨some 95, _, _, _, _, _⟩) (v := .pointer (some ⟨N + 2, 4, none⟩)) rfl (by kernel_rfl) (by kernel_rfl) (by kernel_rfl) (fun _ _ _ h => h) (Or.inl ⟨by rfl, ?_⟩) (by assumption) ?_
        · intro w hSw; (try dsimp only at hSw); go_simp
        simp only [Act.put, List.setIfInBounds_toArray, List.set_cons_zero, List.set_cons_succ]
        refine wpAnyH_take (i := 3) (oi := ⟨some 96, _, _, _, _, _⟩) (v := .int .i64 (x : Int)) rfl (by kernel_rfl) (by kernel_rfl) (by kernel_rfl) (fun _ _ _ h => h) (Or.inl ⟨by rfl, ?_⟩) (by assumption) ?_
        · intro w hSw; (try dsimp only at hSw); have hh := Sm.cells_of hSw 4 _ rfl; go_simp
        simp only [Act.put, List.setIfInBounds_toArray, List.set_cons_zero, List.set_cons_succ]
        refine wpAnyH_take (i := 4) (oi := ⟨some 97, _, _, _, _, _⟩) (v := sl) rfl (by kernel_rfl) (by kernel_rfl) (by kernel_rfl) (fun _ _ _ h => h) (Or.inl ⟨by rfl, ?_⟩) (by assumption) ?_
        · intro w hSw; (try dsimp only at hSw); rw [HSL.out]; go_simp; split <;> rfl
        simp only [Act.put, List.setIfInBounds_toArray, List.set_cons_zero, List.set_cons_succ]
        refine wpAnyH_ready (rs := [5]) (by kernel_rfl) (by simp) ?_
        refine (AllReadyH.cons (o := ⟨some 98, _, _, _, _, _⟩) rfl (fun K hK => ?_) AllReadyH.nil)
        go_simp
        refine (AT.out _ BD).mono ?_
        rintro e u1 ⟨rfl, k5⟩
        have y5 := (k5.block (N + 2) (Sm.lt_of YD)).trans YD
        refine hK.out _ _ y5 (fun hHeld => ?_)
        clear hK K
        refine wpAnyH_take (i := 6) (oi := ⟨some 92, _, _, _, _, _⟩) (v := .tuple #[.string ts, .int .u64 (sv : Int), .bool okb]) rfl (by kernel_rfl) (by kernel_rfl) (by kernel_rfl) (fun _ _ _ h => h) (Or.inl ⟨by rfl, ?_⟩) (by assumption) ?_
        · intro w hSw; (try dsimp only at hSw); go_simp
        simp only [Act.put, List.setIfInBounds_toArray, List.set_cons_zero, List.set_cons_succ]
        refine wpAnyH_take (i := 7) (oi := ⟨some 99, _, _, _, _, _⟩) (v := .string ts) rfl (by kernel_rfl) (by kernel_rfl) (by kernel_rfl) (fun _ _ _ h => h) (Or.inl ⟨by rfl, ?_⟩) (by assumption) ?_
        · intro w hSw; (try dsimp only at hSw); go_simp
        simp only [Act.put, List.setIfInBounds_toArray, List.set_cons_zero, List.set_cons_succ]
        refine wpAnyH_take (i := 8) (oi := ⟨some 100, _, _, _, _, _⟩) (v := .int .u64 (sv : Int)) rfl (by kernel_rfl) (by kernel_rfl) (by kernel_rfl) (fun _ _ _ h => h) (Or.inl ⟨by rfl, ?_⟩) (by assumption) ?_
        · intro w hSw; (try dsimp only at hSw); go_simp
        simp only [Act.put, List.setIfInBounds_toArray, List.set_cons_zero, List.set_cons_succ]
        refine wpAnyH_take (i := 9) (oi := ⟨some 101, _, _, _, _, _⟩) (v := .bool okb) rfl (by kernel_rfl) (by kernel_rfl) (by kernel_rfl) (fun _ _ _ h => h) (Or.inl ⟨by rfl, ?_⟩) (by assumption) ?_
        · intro w hSw; (try dsimp only at hSw); go_simp
        simp only [Act.put, List.setIfInBounds_toArray, List.set_cons_zero, List.set_cons_succ]
        refine wpAnyH_take (i := 10) (oi := ⟨some 17, _, _, _, _, _⟩) (v := .string ts) rfl (by kernel_rfl) (by kernel_rfl) (by kernel_rfl) (fun _ _ _ h => h) (Or.inl ⟨by rfl, ?_⟩) (by assumption) ?_
        · intro w hSw; (try dsimp only at hSw); go_simp
        simp only [Act.put, List.setIfInBounds_toArray, List.set_cons_zero, List.set_cons_succ]
        refine wpAnyH_take (i := 11) (oi := ⟨some 18, _, _, _, _, _⟩) (v := .int .u64 (sv : Int)) rfl (by kernel_rfl) (by kernel_rfl) (by kernel_rfl) (fun _ _ _ h => h) (Or.inl ⟨by rfl, ?_⟩) (by assumption) ?_
        · intro w hSw; (try dsimp only at hSw); go_simp
        simp only [Act.put, List.setIfInBounds_toArray, List.set_cons_zero, List.set_cons_succ]
        refine wpAnyH_take (i := 12) (oi := ⟨some 19, _, _, _, _, _⟩) (v := .bool okb) rfl (by kernel_rfl) (by kernel_rfl) (by kernel_rfl) (fun _ _ _ h => h) (Or.inl ⟨by rfl, ?_⟩) (by assumption) ?_
        · intro w hSw; (try dsimp only at hSw); go_simp
        simp only [Act.put, List.setIfInBounds_toArray, List.set_cons_zero, List.set_cons_succ]
        refine wpAnyH_done (by kernel_rfl) ?_ _
        clear hHeld
        have MU := Lib.hid (HMI.out.low (BD.trans (k5.mono BD.size)))
        have TUR := Lib.hid (HT.out.trans (Dk.Turned.of_below (fp := fun q => q = N + 2) (BD.trans (k5.mono BD.size)) (Nat.le_refl _)))
        have hsu : wr.heap.size ≤ u1.heap.size := (BD.trans (k5.mono BD.size)).size
        have Y5 := Lib.hid y5
        have U0 : Hid (Lg.usedAt wr (N + 2) = x) := Lg.usedAt_of (Sm.cells_of HYY.out 4 _ rfl)
        clear AT HSL BD YD Y0 k5 y5 HLG hlg8 HYY
        by_cases hk : okb = true
        · subst hk
          have hf := HYES.out rfl
          obtain ⟨h1, h2, h3⟩ := Lg.first_some hf
          have hPm := h1.len
          have hnext := HL.out.next (by rw [← HLA.out]; exact hf)
          have hP1 := Pt.parts_pos 32 ts.data.toList
          have htsz : ts.size = ts.data.toList.length := by rw [Array.length_toList]; rfl
          obtain ⟨P, hP⟩ : ∃ P, P = Pt.parts 32 ts.data.toList := ⟨_, rfl⟩
          have PQ : Hid (∀ wx, Calls Tryz.prog 54 #[.string ts] wx fun e w' => e = .returned (.int .i64 (P : Int)) ∧ w' = wx) := fun wx => by rw [hP]; exact (r10Parts_any wx ts (by omega)).mono fun _ _ h => ⟨h.1, h.2.symm⟩
          rw [← hP] at hPm hP1 hnext
          have hxx : x + P = Lg.used (Rs ++ [(ts.data.toList, sv)]) := by rw [Lg.used_snoc, HX.out, hP]
          have HXX := Lib.hid hxx
          have HNX := Lib.hid hnext
          have hxP : x + P ≤ i := by have := HX.out; have := HSL2.out; omega
          have hwr : IntKind.i64.wrap ((x : Int) + (P : Int)) = (x : Int) + (P : Int) := IntWalk.i64_in _ (by omega)
          have EC : Hid (((x + P : Nat) : Int) = (x : Int) + (P : Int)) := by show _ = _; omega
          obtain ⟨Q, hQ⟩ : ∃ Q, Q = Rs.map (·.1) := ⟨_, rfl⟩
          have hql : Q.length = ln := by rw [hQ, List.length_map, HLN.out]
          have hln9 : ln ≤ 4096 := by have := HLN.out; have := HSL2.out; omega
          rw [← hQ] at MU
          have HQ := Lib.hid hQ
          have hal := (Below.refl u1.heap.size u1).alloc (Nat.le_refl _) (.cells #[.string ts] 9)
          have MP := Lib.hid (MU.out.low hal)
          have y5 := Y5.out
          have v3 := Sm.cells_of y5 3 _ rfl
          have r3_ := Sm.free_of y5 3
          clear hf h1 h2 h3 hPm hnext htsz hP hxx hQ hus hlast hrcs
          go_upto_region 21 with (at_builtin; refine Lg.wp_more rfl _ _ rfl rfl MP.out rfl (Sm.cells_of (heap_alloc_new u1 _) 0 _ rfl) (by omega) (by simp; omega) (fun q hq => by simp; omega) fun A6 c6 w6 mi6 tu6 => ?_; rw [hql] at mi6 ⊢; have nb : ∀ q, q < W1.heap.size → ¬ (Value.slice A5 ln c5).ownBlock = some q := fun q hq e => MP.out.off q e hq; have y6 := (tu6.block (N + 2) (by simp; omega) (nb (N + 2) (by omega))).trans ((hal.block (N + 2) (by omega)).trans y5); have g3 := Sm.cells_of y6 3 _ rfl; have f3 := Sm.free_of y6 3)
          have T6 : Dk.Turned (fun q => q = N + 2) W1 w6 := ⟨tu6.os.trans (hal.os.trans TUR.out.os), tu6.tape.trans (hal.tape.trans TUR.out.tape), tu6.output.trans (hal.output.trans TUR.out.output), by have := tu6.size; simp at this; have := TUR.out.size; omega, fun j hj hn => (tu6.block j (by have := TUR.out.size; simp; omega) (nb j hj)).trans ((hal.block j (by have := TUR.out.size; omega)).trans (TUR.out.block j hj hn))⟩
          have hN2 : N + 2 < W1.heap.size := by omega
          have m7 := mi6.set (p := ⟨N + 2, 3, none⟩) hN2 (.slice A6 (ln + 1) c6)
          have y7 := Sm.heap_set (w := w6) y6 3 (.slice A6 (ln + 1) c6)
          have t7 := T6.trans (Lg.turned_set w6 (N + 2) 3 (.slice A6 (ln + 1) c6))
          generalize w6.setCell ⟨N + 2, 3, none⟩ (.slice A6 (ln + 1) c6) = w7 at *
          have y8 := Sm.heap_set (w := w7.drew) y7 4 (.int .i64 ((x : Int) + (P : Int)))
          have y9 := Sm.heap_set y8 5 (.int .u64 (sv : Int))
          have m9 := ((m7.turned (w' := w7.drew) ⟨rfl, rfl, rfl, Nat.le_refl _, fun _ _ _ => rfl⟩ fun _ => .inl).set (p := ⟨N + 2, 4, none⟩) hN2 (.int .i64 ((x : Int) + (P : Int)))).set (p := ⟨N + 2, 5, none⟩) hN2 (.int .u64 (sv : Int))
          have t9 := (t7.drew.trans (Lg.turned_set _ (N + 2) 4 (.int .i64 ((x : Int) + (P : Int))))).trans (Lg.turned_set _ (N + 2) 5 (.int .u64 (sv : Int)))
          have v4 : w7.drew.cell? ⟨N + 2, 4, none⟩ = some (.int .i64 (x : Int)) := Sm.cells_of (w := w7.drew) y7 4 _ rfl
          have f4 : w7.drew.frozen? ⟨N + 2, 4, none⟩ = false := Sm.free_of (w := w7.drew) y7 4
          have v5 : w7.cell? ⟨N + 2, 5, none⟩ = some (.int .u64 (la : Int)) := Sm.cells_of y7 5 _ rfl
          have f5 : w7.frozen? ⟨N + 2, 5, none⟩ = false := Sm.free_of y7 5
          have PAD := Lib.hid (PQ.out w7.drew)
          have Y9 := Lib.hid y9
          have M9 := Lib.hid m9
          have T9 := Lib.hid t9
          clear y5 y6 y7 y8 y9 m7 m9 t7 t9 T6 tu6 mi6 nb hal MP v3 r3_ g3 f3
          go_still_tail 5, (by kernel_rfl)
          still_call PAD.out
          repeat still_step
          refine wpStill_nil ?_
          change wpList _ _ _ _ _ w7.drew
          go_wp2
          go_roundw
          case rel => exact ⟨Rs ++ [(ts.data.toList, sv)], T.drop P, A6, c6, ln + 1, x + P, sv, HNX.out, by rw [List.length_append, HLN.out]; rfl, HXX.out, (Lg.last_snoc _ _ _ _).symm, by rw [List.map_append, ← HQ.out]; exact M9.out, T9.out, by rw [EC.out]; exact Y9.out⟩
          case measure =>
            have U9 := Lg.usedAt_of (n := x + P) (by rw [EC.out]; exact Sm.cells_of Y9.out 4 _ rfl)
            exact Nat.lt_of_le_of_lt (Nat.le_of_eq (congrArg (i - ·) U9)) (Nat.lt_of_lt_of_le (show i - (x + P) < i - x by omega) (Nat.le_of_eq (congrArg (i - ·) U0.out.symm)))
        · have hk0 : okb = false := by simpa using hk
          subst hk0
          have EV : Hid (FO = Rs) := by
            show _ = _
            rw [HFO.out]; exact HL.out.stop hep.2 (by rw [← HLA.out]; exact HNO.out rfl)
          have z5 : u1.heap[N + 1]? = some (.cells #[.int .i64 0, .int .i64 0, .int .u64 0, .slice none 0 0, .int .i64 0, .int .u64 0, .int .u64 0, .bool false] 39 (0, 0)) := (TUR.out.block (N + 1) (by omega) (by omega)).trans HZ.out
          have y5 := Y5.out
          have q0 := Sm.cells_of z5 0 _ rfl; have q1 := Sm.cells_of z5 1 _ rfl; have q2 := Sm.cells_of z5 2 _ rfl; have q3 := Sm.cells_of z5 3 _ rfl; have q4 := Sm.cells_of z5 4 _ rfl; have q5 := Sm.cells_of z5 5 _ rfl; have q6 := Sm.cells_of z5 6 _ rfl; have q7 := Sm.cells_of z5 7 _ rfl
          have r0_ := Sm.free_of z5 0; have r1_ := Sm.free_of z5 1; have r2_ := Sm.free_of z5 2; have r3_ := Sm.free_of z5 3; have r4_ := Sm.free_of z5 4; have r5_ := Sm.free_of z5 5; have r6_ := Sm.free_of z5 6; have r7_ := Sm.free_of z5 7
          have v0 := Sm.cells_of y5 0 _ rfl; have v1 := Sm.cells_of y5 1 _ rfl; have v2 := Sm.cells_of y5 2 _ rfl; have v3 := Sm.cells_of y5 3 _ rfl; have v4 := Sm.cells_of y5 4 _ rfl; have v5 := Sm.cells_of y5 5 _ rfl; have v6 := Sm.cells_of y5 6 _ rfl; have v7 := Sm.cells_of y5 7 _ rfl
          clear hk y5 z5
          go_wp2_with fail
          refine bodyPost_ret (v := .tuple #[.agg #[.int .i64 a, .int .i64 (i : Int), .int .u64 (ep : Int), .slice A5 ln c5, .int .i64 (x : Int), .int .u64 (la : Int), .int .u64 (sn : Int), .bool false], .int .i64 0]) ((results_cell_tmp rfl _ _ _).trans (by go_simp)) rfl ?_
          rw [← HNN.out]
          have bu : Below N w u1 := HB.out.trans (TUR.out.below (fun q e => by omega) (by omega))
          refine ⟨((((((((bu.setCell (p := ⟨N + 1, 0, none⟩) (Nat.le_succ N) _).setCell (p := ⟨N + 1, 1, none⟩) (Nat.le_succ N) _).setCell (p := ⟨N + 1, 2, none⟩) (Nat.le_succ N) _).setCell (p := ⟨N + 1, 3, none⟩) (Nat.le_succ N) _).setCell (p := ⟨N + 1, 4, none⟩) (Nat.le_succ N) _).setCell (p := ⟨N + 1, 5, none⟩) (Nat.le_succ N) _).setCell (p := ⟨N + 1, 6, none⟩) (Nat.le_succ N) _).setCell (p := ⟨N + 1, 7, none⟩) (Nat.le_succ N) _), .inr ⟨E0.out, A5, c5, ?_, ?_⟩⟩
          · rw [EV.out, ← HLN.out, ← HX.out, ← HLA.out, ← HSN2.out]
          · rw [EV.out, ← HLN.out]
            have hN1 : N + 1 < W1.heap.size := by omega
            exact ((((((((MU.out.set (p := ⟨N + 1, 0, none⟩) hN1 _).set (p := ⟨N + 1, 1, none⟩) hN1 _).set (p := ⟨N + 1, 2, none⟩) hN1 _).set (p := ⟨N + 1, 3, none⟩) hN1 _).set (p := ⟨N + 1, 4, none⟩) hN1 _).set (p := ⟨N + 1, 5, none⟩) hN1 _).set (p := ⟨N + 1, 6, none⟩) hN1 _).set (p := ⟨N + 1, 7, none⟩) hN1 _).less (by omega) fun q hq => by omega
end Go.Proofs.YtnmagfodjcookaaGreat

/-
  The document's log: a Log by value; what Open tells; the blocks of a call of Add.
-/
namespace Go.Proofs.YtnmagfodjcookaaGreat
open Go.RowKit
namespace Lg
theorem results_cct {fn : Func} {p q u : Tmp} {ty tz : TypeId} (h : fn.results = #[.cell p ty, .cell q tz, .tmp u]) (tmps : Array Value) (P : Program) (w : World) :
    (results fn tmps).run P w =
      ((asAddr (tmps.getD p undef)).run P w).andThen fun a w₁ => ((loadVar ty a).run P w₁).andThen fun v w₂ => ((asAddr (tmps.getD q undef)).run P w₂).andThen fun b w₃ => ((loadVar tz b).run P w₃).andThen fun x w₄ => .ok (.tuple #[v, x, tmps.getD u undef]) w₄ := by
  simp only [results, h]
  simp [Sem.run_bind, Result.andThen]
theorem Rows.turned {w w' : World} {A : Option Addr} {l : List (List UInt8)} {n c : Nat} {f : Nat → Prop} (h : Rows w A l) (hn : ∀ q, (Value.slice A n c).ownBlock = some q → ¬ f q) (t : Dk.Turned f w w') : Rows w' A l := by
  rcases h with h | ⟨g, o, rfl, h1, h2⟩
  · exact .inl h
  · refine .inr ⟨g, o, rfl, Nat.lt_of_lt_of_le h1 t.size, fun i hi => ?_⟩
    rw [← h2 i hi]
    simp only [World.cell?, t.block g h1 (hn g (by simp [Value.ownBlock]))]
/-- A Log of the document's, by value, that begins at a and has nn sectors; its list of texts lies in blocks that nobody turns. -/
def RefAt (w : World) (f : Nat → Prop) (a nn : Int) (v : Value) (L : Md) : Prop :=
  ∃ A c, ∃ us : Nat, v = .agg (lv a nn L.ep (.slice A L.recs.length c) us L.ahead L.salt L.broken) ∧ L.next = a + us ∧ L.end_ = a + nn ∧ Rows w A L.recs ∧ (∀ q, (Value.slice A L.recs.length c).ownBlock = some q → q < w.heap.size ∧ ¬ f q) ∧ (A = none → c = 0)
theorem RefAt.turned {w w' : World} {f f' : Nat → Prop} {a nn : Int} {v : Value} {L : Md} (h : RefAt w f a nn v L) (t : Dk.Turned f w w') (hf : ∀ q, f' q → f q ∨ w.heap.size ≤ q) : RefAt w' f' a nn v L := by
  obtain ⟨A, c, us, e, h1, h2, h3, h4, h5⟩ := h
  refine ⟨A, c, us, e, h1, h2, h3.turned (fun q hq => (h4 q hq).2) t, fun q hq => ⟨Nat.lt_of_lt_of_le (h4 q hq).1 t.size, fun e => ?_⟩, h5⟩
  rcases hf q e with x | x
  · exact (h4 q hq).2 x
  · have := (h4 q hq).1; omega
theorem RefAt.low {w w' : World} {f : Nat → Prop} {a nn : Int} {v : Value} {L : Md} (h : RefAt w f a nn v L) (k : Below w.heap.size w w') : RefAt w' f a nn v L := h.turned (Dk.Turned.of_below k (Nat.le_refl _)) fun _ => .inl
theorem RefAt.off {w : World} {f f' : Nat → Prop} {a nn : Int} {v : Value} {L : Md} (h : RefAt w f a nn v L) (k : ∀ q, f' q → f q) : RefAt w f' a nn v L := by
  obtain ⟨A, c, us, e, h1, h2, h3, h4, h5⟩ := h
  exact ⟨A, c, us, e, h1, h2, h3, fun q hq => ⟨(h4 q hq).1, fun e => (h4 q hq).2 (k q e)⟩, h5⟩
theorem quad {w : World} {fp : Nat → Prop} {v : Value} {M : Dk.Md} (h : Dk.RefAt w fp v M) : ∃ A n c B m d f o, v = .agg #[.slice A n c, .slice B m d, .int .i64 f, .bool o] := by
  obtain ⟨A, c, B, d, ws, e, _⟩ := h
  exact ⟨_, _, _, _, _, _, _, _, e⟩
theorem refTurned {w w' : World} {f f' : Nat → Prop} {v : Value} {M : Dk.Md} (h : Dk.RefAt w f v M) (t : Dk.Turned f w w') (hf : ∀ q, f' q → f q ∨ w.heap.size ≤ q) : Dk.RefAt w' f' v M := by
  obtain ⟨A, c, Bw, d, ws, e, h1, h2, h3, h4, h5, h6⟩ := h
  have hs := t.size
  have hn : ∀ g, g < w.heap.size ∧ ¬ f g → g < w'.heap.size ∧ ¬ f' g := fun g hg => ⟨by omega, fun hf' => by
    rcases hf g hf' with x | x
    · exact hg.2 x
    · omega⟩
  exact ⟨A, c, Bw, d, ws, e, h1.keep hs fun g _ hg => t.block g (h4 g hg).1 (h4 g hg).2, h2.keep hs fun g _ hg => t.block g (h5 g hg).1 (h5 g hg).2, h3, fun g hg => hn g (h4 g hg), fun g hg => hn g (h5 g hg), h6⟩
theorem turnedSet {f : Nat → Prop} {w w' : World} (h : Dk.Turned f w w') {k : Nat} (hk : f k) (o : Nat) (v : Value) : Dk.Turned f w (w'.setCell ⟨k, o, none⟩ v) :=
  h.trans ⟨rfl, rfl, rfl, by simp, fun i _ hn => Below.heap_setCell _ ⟨k, o, none⟩ v i (fun e => hn (e ▸ hk))⟩
/-- The call's own blocks: the Log, the Disk, the results'. -/
structure Fr10 (N : Nat) (w : World) (kc dc : Array Value) : Prop where
  kb : w.heap[N]? = some (.cells kc 39 (0, 0))
  db : w.heap[N + 1]? = some (.cells dc 33 (0, 0))
  kr : w.heap[N + 2]? = some (.cells #[.int .i64 0, .int .i64 0, .int .u64 0, .slice none 0 0, .int .i64 0, .int .u64 0, .int .u64 0, .bool false] 39 (0, 0))
  dr : w.heap[N + 3]? = some (.cells #[.slice none 0 0, .slice none 0 0, .int .i64 0, .bool false] 33 (0, 0))
theorem Fr10.low {N : Nat} {w w' : World} {kc dc : Array Value} (h : Fr10 N w kc dc) (k : Below w.heap.size w w') : Fr10 N w' kc dc :=
  ⟨(k.block N (Sm.lt_of h.kb)).trans h.kb, (k.block _ (Sm.lt_of h.db)).trans h.db, (k.block _ (Sm.lt_of h.kr)).trans h.kr, (k.block _ (Sm.lt_of h.dr)).trans h.dr⟩
theorem fr10_new (w : World) (kc dc : Array Value) : Fr10 w.heap.size ((((w.alloc (.cells kc 39)).alloc (.cells dc 33)).alloc (.cells #[.int .i64 0, .int .i64 0, .int .u64 0, .slice none 0 0, .int .i64 0, .int .u64 0, .int .u64 0, .bool false] 39)).alloc (.cells #[.slice none 0 0, .slice none 0 0, .int .i64 0, .bool false] 33)) kc dc ∧
    Below w.heap.size w ((((w.alloc (.cells kc 39)).alloc (.cells dc 33)).alloc (.cells #[.int .i64 0, .int .i64 0, .int .u64 0, .slice none 0 0, .int .i64 0, .int .u64 0, .int .u64 0, .bool false] 39)).alloc (.cells #[.slice none 0 0, .slice none 0 0, .int .i64 0, .bool false] 33)) := by
  refine ⟨⟨?_, ?_, ?_, ?_⟩, ((((Below.refl _ w).alloc (Nat.le_refl _) _).alloc (by simp) _).alloc (by simp <;> omega) _).alloc (by simp <;> omega) _⟩
  · rw [Below.heap_alloc _ _ _ (by simp <;> omega), Below.heap_alloc _ _ _ (by simp <;> omega), Below.heap_alloc _ _ _ (by simp)]; exact heap_alloc_new w _
  · have := heap_alloc_new (w.alloc (.cells kc 39)) (.cells dc 33)
    rw [World.size_alloc] at this
    rw [Below.heap_alloc _ _ _ (by simp <;> omega), Below.heap_alloc _ _ _ (by simp)]; exact this
  · have := heap_alloc_new ((w.alloc (.cells kc 39)).alloc (.cells dc 33)) (.cells #[.int .i64 0, .int .i64 0, .int .u64 0, .slice none 0 0, .int .i64 0, .int .u64 0, .int .u64 0, .bool false] 39)
    rw [World.size_alloc, World.size_alloc] at this
    rw [Below.heap_alloc _ _ _ (by simp)]; exact this
  · have := heap_alloc_new (((w.alloc (.cells kc 39)).alloc (.cells dc 33)).alloc (.cells #[.int .i64 0, .int .i64 0, .int .u64 0, .slice none 0 0, .int .i64 0, .int .u64 0, .int .u64 0, .bool false] 39)) (.cells #[.slice none 0 0, .slice none 0 0, .int .i64 0, .bool false] 33)
    rw [World.size_alloc, World.size_alloc, World.size_alloc] at this
    exact this
theorem Fr10.sz {N : Nat} {w : World} {kc dc : Array Value} (h : Fr10 N w kc dc) : N + 4 ≤ w.heap.size := Sm.lt_of h.dr
/-- The results' cells are laid. -/
structure Fin10 (N : Nat) (w : World) (ks ds : Array Value) (w' : World) : Prop where
  kr : w'.heap[N + 2]? = some (.cells ks 39 (0, 0))
  dr : w'.heap[N + 3]? = some (.cells ds 33 (0, 0))
  tu : Dk.Turned (fun q => q = N + 2 ∨ q = N + 3) w w'
def sets8 (w : World) (N : Nat) (a0 a1 a2 a3 a4 a5 a6 a7 b0 b1 b2 b3 : Value) : World :=
  ((((((((((((w.setCell ⟨N + 1 + 1, 0, none⟩ a0).setCell ⟨N + 1 + 1, 1, none⟩ a1).setCell ⟨N + 1 + 1, 2, none⟩ a2).setCell ⟨N + 1 + 1, 3, none⟩ a3).setCell ⟨N + 1 + 1, 4, none⟩ a4).setCell ⟨N + 1 + 1, 5, none⟩ a5).setCell ⟨N + 1 + 1, 6, none⟩ a6).setCell ⟨N + 1 + 1, 7, none⟩ a7).setCell ⟨N + 1 + 1 + 1, 0, none⟩ b0).setCell ⟨N + 1 + 1 + 1, 1, none⟩ b1).setCell ⟨N + 1 + 1 + 1, 2, none⟩ b2).setCell ⟨N + 1 + 1 + 1, 3, none⟩ b3)
theorem set8 {w : World} {N : Nat} {cs : Array Value} {t : TypeId} {q : Nat × Nat} (h : w.heap[N]? = some (.cells cs t q)) (hs : cs.size = 8) (a0 a1 a2 a3 a4 a5 a6 a7 : Value) :
    ((((((((w.setCell ⟨N, 0, none⟩ a0).setCell ⟨N, 1, none⟩ a1).setCell ⟨N, 2, none⟩ a2).setCell ⟨N, 3, none⟩ a3).setCell ⟨N, 4, none⟩ a4).setCell ⟨N, 5, none⟩ a5).setCell ⟨N, 6, none⟩ a6).setCell ⟨N, 7, none⟩ a7).heap[N]? = some (.cells #[a0, a1, a2, a3, a4, a5, a6, a7] t q) := by
  obtain ⟨x0, x1, x2, x3, x4, x5, x6, x7, rfl⟩ : ∃ x0 x1 x2 x3 x4 x5 x6 x7, cs = #[x0, x1, x2, x3, x4, x5, x6, x7] := by
    rcases cs with ⟨l⟩
    match l, hs with
    | [x0, x1, x2, x3, x4, x5, x6, x7], _ => exact ⟨x0, x1, x2, x3, x4, x5, x6, x7, rfl⟩
  rw [Sm.heap_set (Sm.heap_set (Sm.heap_set (Sm.heap_set (Sm.heap_set (Sm.heap_set (Sm.heap_set (Sm.heap_set h 0 a0) 1 a1) 2 a2) 3 a3) 4 a4) 5 a5) 6 a6) 7 a7]
  simp
theorem turned8 (w : World) (N : Nat) (a0 a1 a2 a3 a4 a5 a6 a7 : Value) : Dk.Turned (fun q => q = N) w ((((((((w.setCell ⟨N, 0, none⟩ a0).setCell ⟨N, 1, none⟩ a1).setCell ⟨N, 2, none⟩ a2).setCell ⟨N, 3, none⟩ a3).setCell ⟨N, 4, none⟩ a4).setCell ⟨N, 5, none⟩ a5).setCell ⟨N, 6, none⟩ a6).setCell ⟨N, 7, none⟩ a7) :=
  (((((((turned_set w N 0 a0).trans (turned_set _ N 1 a1)).trans (turned_set _ N 2 a2)).trans (turned_set _ N 3 a3)).trans (turned_set _ N 4 a4)).trans (turned_set _ N 5 a5)).trans (turned_set _ N 6 a6)).trans (turned_set _ N 7 a7)
theorem set8_other (w : World) (N : Nat) (a0 a1 a2 a3 a4 a5 a6 a7 : Value) (i : Nat) (h : i ≠ N) :
    ((((((((w.setCell ⟨N, 0, none⟩ a0).setCell ⟨N, 1, none⟩ a1).setCell ⟨N, 2, none⟩ a2).setCell ⟨N, 3, none⟩ a3).setCell ⟨N, 4, none⟩ a4).setCell ⟨N, 5, none⟩ a5).setCell ⟨N, 6, none⟩ a6).setCell ⟨N, 7, none⟩ a7).heap[i]? = w.heap[i]? := by
  rw [Below.heap_setCell _ _ _ _ h, Below.heap_setCell _ _ _ _ h, Below.heap_setCell _ _ _ _ h, Below.heap_setCell _ _ _ _ h, Below.heap_setCell _ _ _ _ h, Below.heap_setCell _ _ _ _ h, Below.heap_setCell _ _ _ _ h, Below.heap_setCell _ _ _ _ h]
theorem turned4 (w : World) (N : Nat) (a b c d : Value) : Dk.Turned (fun q => q = N) w ((((w.setCell ⟨N, 0, none⟩ a).setCell ⟨N, 1, none⟩ b).setCell ⟨N, 2, none⟩ c).setCell ⟨N, 3, none⟩ d) :=
  (((turned_set w N 0 a).trans (turned_set _ N 1 b)).trans (turned_set _ N 2 c)).trans (turned_set _ N 3 d)
theorem Fr10.fin {N : Nat} {w : World} {kc dc : Array Value} (h : Fr10 N w kc dc) (a0 a1 a2 a3 a4 a5 a6 a7 b0 b1 b2 b3 : Value) : Fin10 N w #[a0, a1, a2, a3, a4, a5, a6, a7] #[b0, b1, b2, b3] (sets8 w N a0 a1 a2 a3 a4 a5 a6 a7 b0 b1 b2 b3).drew := by
  have k1 := set8 (N := N + 1 + 1) h.kr rfl a0 a1 a2 a3 a4 a5 a6 a7
  have k2 := (set8_other w (N + 1 + 1) a0 a1 a2 a3 a4 a5 a6 a7 (N + 1 + 1 + 1) (by omega)).trans h.dr
  have t1 := turned8 w (N + 1 + 1) a0 a1 a2 a3 a4 a5 a6 a7
  unfold sets8
  generalize ((((((((w.setCell ⟨N + 1 + 1, 0, none⟩ a0).setCell ⟨N + 1 + 1, 1, none⟩ a1).setCell ⟨N + 1 + 1, 2, none⟩ a2).setCell ⟨N + 1 + 1, 3, none⟩ a3).setCell ⟨N + 1 + 1, 4, none⟩ a4).setCell ⟨N + 1 + 1, 5, none⟩ a5).setCell ⟨N + 1 + 1, 6, none⟩ a6).setCell ⟨N + 1 + 1, 7, none⟩ a7) = w1 at *
  have k3 := (Dk.set4_other w1 (N + 1 + 1 + 1) b0 b1 b2 b3 (N + 1 + 1) (by omega)).trans k1
  have k4 := Dk.set4 k2 rfl b0 b1 b2 b3
  have t2 := turned4 w1 (N + 1 + 1 + 1) b0 b1 b2 b3
  generalize ((((w1.setCell ⟨N + 1 + 1 + 1, 0, none⟩ b0).setCell ⟨N + 1 + 1 + 1, 1, none⟩ b1).setCell ⟨N + 1 + 1 + 1, 2, none⟩ b2).setCell ⟨N + 1 + 1 + 1, 3, none⟩ b3) = w2 at *
  exact ⟨k3, k4, ((t1.mono fun i e => .inl e).trans (t2.mono fun i e => .inr e)).drew⟩
theorem Fin10.below {N : Nat} {w0 w w' : World} {ks ds : Array Value} (h : Fin10 N w ks ds w') (b : Below N w0 w) (hs : N ≤ w.heap.size) : Below N w0 w' := b.trans (h.tu.below (fun q e => by omega) hs)
/-- In the loop: the call's own blocks, and the document's disk. -/
structure Lo10 (w w5 wr : World) (N : Nat) (fp : Nat → Prop) (kc dc : Array Value) (v : Value) (M : Dk.Md) : Prop where
  fr : Fr10 N wr kc dc
  ref : Dk.RefAt wr fp v M
  lt : ∀ q, fp q → q < wr.heap.size
  own : ∀ q, N ≤ q → q < N + 4 → fp q
  bel : Below N w wr
  tu : Dk.Turned (fun q => q < N + 4) w5 wr
section
variable {w w5 wr w' : World} {N : Nat} {fp : Nat → Prop} {kc dc : Array Value} {v v' : Value} {M M' : Dk.Md}
theorem Lo10.write (h : Lo10 w w5 wr N fp kc dc v M) (r : Dk.RefAt w' fp v' M') (k : Below wr.heap.size wr w') : Lo10 w w5 w' N fp kc dc v' M' :=
  ⟨h.fr.low k, r, fun q hq => Nat.lt_of_lt_of_le (h.lt q hq) k.size, h.own, h.bel.trans (k.mono (by have := h.fr.sz; omega)), h.tu.trans (Dk.Turned.of_below k (Nat.le_refl _))⟩
theorem Lo10.low (h : Lo10 w w5 wr N fp kc dc v M) (k : Below wr.heap.size wr w') : Lo10 w w5 w' N fp kc dc v M := h.write (h.ref.low k) k
theorem Lo10.alloc (h : Lo10 w w5 wr N fp kc dc v M) (o : Obj) : Lo10 w w5 (wr.alloc o) N (fun q => fp q ∨ q = wr.heap.size) kc dc v M := by
  have k : Below wr.heap.size wr (wr.alloc o) := (Below.refl _ wr).alloc (Nat.le_refl _) o
  refine ⟨h.fr.low k, refTurned h.ref (f := fp) (Dk.Turned.of_below k (Nat.le_refl _)) (fun q e => e.imp id fun e => Nat.le_of_eq e.symm), fun q hq => ?_, fun q h1 h2 => .inl (h.own q h1 h2), h.bel.trans (k.mono (by have := h.fr.sz; omega)), h.tu.trans (Dk.Turned.of_below k (Nat.le_refl _))⟩
  rcases hq with e | e
  · have := h.lt q e; simp; omega
  · rw [e]; simp
theorem Lo10.off (h : Lo10 w w5 wr N fp kc dc v M) {g : Nat → Prop} (hg : ∀ q, g q → fp q) (ho : ∀ q, N ≤ q → q < N + 4 → g q) : Lo10 w w5 wr N g kc dc v M :=
  ⟨h.fr, h.ref.off fun q _ e => hg q e, fun q e => h.lt q (hg q e), ho, h.bel, h.tu⟩
theorem Lo10.setQ (h : Lo10 w w5 wr N fp kc dc v M) {Q : Nat} (hQ : w5.heap.size ≤ Q) (hN : N + 4 ≤ Q) (hf : fp Q) (a b c d : Value) :
    Lo10 w w5 ((((wr.setCell ⟨Q, 0, none⟩ a).setCell ⟨Q, 1, none⟩ b).setCell ⟨Q, 2, none⟩ c).setCell ⟨Q, 3, none⟩ d) N fp kc dc v M := by
  have t : Dk.Turned (fun q => q = Q) wr ((((wr.setCell ⟨Q, 0, none⟩ a).setCell ⟨Q, 1, none⟩ b).setCell ⟨Q, 2, none⟩ c).setCell ⟨Q, 3, none⟩ d) := turned4 wr _ a b c d
  have o := fun i hi => Dk.set4_other wr Q a b c d i hi
  refine ⟨⟨(o N (by omega)).trans h.fr.kb, (o _ (by omega)).trans h.fr.db, (o _ (by omega)).trans h.fr.kr, (o _ (by omega)).trans h.fr.dr⟩, refTurned h.ref (t.mono fun i e => by rw [e]; exact hf) fun _ => .inl, fun q hq => Nat.lt_of_lt_of_le (h.lt q hq) t.size, h.own, h.bel.trans (t.below (fun q e => by omega) (by have := h.fr.sz; omega)), ?_⟩
  have hs := h.tu.size
  exact ⟨t.os.trans h.tu.os, t.tape.trans h.tu.tape, t.output.trans h.tu.output, Nat.le_trans hs t.size, fun i hi hn => (t.block i (by omega) (by omega)).trans (h.tu.block i hi hn)⟩
theorem Lo10.setD (h : Lo10 w w5 wr N fp kc dc v M) (hd : dc.size = 4) (a b c d : Value) :
    Lo10 w w5 ((((wr.setCell ⟨N + 1, 0, none⟩ a).setCell ⟨N + 1, 1, none⟩ b).setCell ⟨N + 1, 2, none⟩ c).setCell ⟨N + 1, 3, none⟩ d) N fp kc #[a, b, c, d] v M := by
  have t : Dk.Turned (fun q => q = N + 1) wr ((((wr.setCell ⟨N + 1, 0, none⟩ a).setCell ⟨N + 1, 1, none⟩ b).setCell ⟨N + 1, 2, none⟩ c).setCell ⟨N + 1, 3, none⟩ d) := turned4 wr _ a b c d
  have o := fun i hi => Dk.set4_other wr (N + 1) a b c d i hi
  refine ⟨⟨(o N (by omega)).trans h.fr.kb, Dk.set4 h.fr.db hd a b c d, (o _ (by omega)).trans h.fr.kr, (o _ (by omega)).trans h.fr.dr⟩, refTurned h.ref (t.mono fun i e => by rw [e]; exact h.own _ (by omega) (by omega)) fun _ => .inl, fun q hq => Nat.lt_of_lt_of_le (h.lt q hq) t.size, h.own, h.bel.trans (t.below (fun q e => by omega) (by have := h.fr.sz; omega)), ?_⟩
  have hs := h.tu.size
  exact ⟨t.os.trans h.tu.os, t.tape.trans h.tu.tape, t.output.trans h.tu.output, Nat.le_trans hs t.size, fun i hi hn => (t.block i (by omega) (by omega)).trans (h.tu.block i hi hn)⟩
end
theorem putsOk : ∀ (l : List (List UInt8)) (M : Dk.Md) (i : Int), M.Ok → (Kp.puts M i l).1.Ok
  | [], M, i, h => h
  | b :: l, M, i, h => by
    rw [Kp.puts]
    split
    · exact putsOk l _ _ (h.write _ _)
    · exact h.write _ _
theorem info_dsk10 {c : List Value} (h : c.length = 4) : (Tryz.prog.info? 33).map (·.size) = some c.length := by rw [h]; kernel_rfl
end Lg
theorem r10Open_any {w : World} {fp : Nat → Prop} {v : Value} {M : Dk.Md} (h : Dk.RefAt w fp v M) (hq : Dk.waits M ≤ 1099511627775) (hM : M.lasts.length ≤ 4096) (a nn : Int) (ep : Nat) (hb : -9223372036854775808 ≤ nn ∧ nn ≤ 9223372036854775807) (hep : ep < 18446744073709551616) :
    Calls Tryz.prog 21 #[v, .int .i64 a, .int .i64 nn, .int .u64 ep] w fun e w' => Below w.heap.size w w' ∧
      ((Lg.openErr M a nn ep ≠ 0 ∧ e = .returned (.tuple #[.agg Lg.lz, .int .i64 (Lg.openErr M a nn ep)])) ∨
       (Lg.openErr M a nn ep = 0 ∧ ∃ v', e = .returned (.tuple #[v', .int .i64 0]) ∧ Lg.RefAt w' (fun q => q < w.heap.size) a nn v' (Lg.opened nn.toNat (Kp.sees M a) a ep))) := by
  by_cases ha : a < 0 ∨ nn < 1 ∨ (M.lasts.length : Int) - nn < a ∨ ep = 0
  · have e : Lg.openErr M a nn ep = 1 := by rw [Lg.openErr, if_pos ha]
    rw [e]
    exact (r10Open_arg h hM a nn ep hb ha).mono fun e w' hx => ⟨hx.2, .inl ⟨by decide, hx.1⟩⟩
  · obtain ⟨n, rfl⟩ : ∃ n : Nat, nn = n := ⟨nn.toNat, by omega⟩
    have e : Lg.openErr M a n ep = Lg.r10Err M a n := by rw [Lg.openErr, if_neg ha]; rfl
    rw [e]
    refine (r10Open_in h hq hM a n ep ⟨by omega, hep⟩ (by omega) (by omega)).mono fun e w' hx => ⟨hx.1, hx.2.imp id fun h2 => ⟨h2.1, ?_⟩⟩
    obtain ⟨A, c, rfl, hm⟩ := h2.2
    have hl : (Lg.opened n (Kp.sees M a) a ep).recs.length = (Lg.found ep (Lg.place n (Kp.sees M a))).length := by rw [Lg.opened_recs, List.length_map]
    refine ⟨_, rfl, A, c, Lg.used (Lg.found ep (Lg.place n (Kp.sees M a))), ?_, rfl, rfl, ?_, ?_, ?_⟩
    · rw [Int.toNat_natCast, hl]; rfl
    · rw [Int.toNat_natCast, Lg.opened_recs]; exact hm.rows (by rw [List.length_map])
    · rw [Int.toNat_natCast, hl]; exact fun q hq => ⟨(hm.row.lt q hq).2, hm.off q hq⟩
    · intro e
      subst e
      rcases hm.row.2 with h | ⟨g, cap, cur, h, _⟩
      · simp only [Value.slice.injEq] at h; exact h.1.2.2
      · simp at h
end Go.Proofs.YtnmagfodjcookaaGreat

/-
  A list of texts, or of none, appended onto none.
-/
namespace Go.Proofs.YtnmagfodjcookaaGreat
open Go.RowKit
namespace Lg
theorem wp_copy {w : World} {ops : Array Oper} {rest : List Oper} {o : Oper} {a : Act} {Q : Exit → Act → World → Prop} (hgd : o.guard = none) (s x : Operand)
    (ho : o.op = .call { callee := .builtin .append, args := #[s, x], argTypes := #[30, 30] }) (hs : a.eval s = .slice none 0 0) {A : Option Addr} {n c : Nat} {l : List (List UInt8)} (h : Rows w A l) (hn : n = l.length) (hc : A = none → c = 0)
    (hx : a.eval x = .slice A n c) (hroom : l.length ≤ 1000000)
    (K : ∀ A' c' w', Mine w.heap.size w' (fun q => q < w.heap.size) (.slice A' n c') l → Below w.heap.size w w' → wpList Tryz.prog ops Q rest (a.put o.dst (.slice A' n c')) w') : wpList Tryz.prog ops Q (o :: rest) a w := by
  obtain ⟨i0, hie, hz0, hz1, hz2⟩ := info_parts Dk.info3_str
  have own0 := World.ownsRow_nil w w.heap.size 9 1
  cases A with
  | none =>
    have hl : l = [] := by
      rcases h with h | ⟨g, o, e, _⟩
      · exact h
      · cases e
    subst hl
    obtain rfl := hc rfl
    subst hn
    exact wpList_append_own_none hgd s x 30 ho w.heap.size 9 i0 1 Tryz.underlying30 hie _ 0 [] hs own0 hx (K none 0 w (Mine.nil _ _ _) (Below.refl _ _))
  | some ad =>
    refine wpList_append_own w hgd s x 30 ho w.heap.size 9 i0 (.string ⟨#[]⟩) 1 16 Tryz.underlying30 hie hz0 hz1 hz2 rfl (by decide) _ 0 [] hs own0 ad n c (l.map Dk.txt) hx (by simp [hn]) ?_ ?_ (by unfold maxLen; omega) (by omega) (Nat.le_refl _) ?_
    · intro j u hj
      rcases h with h | ⟨g, o, e, h1, h2⟩
      · subst h; simp at hj
      · cases e
        rw [List.getElem?_map] at hj
        obtain ⟨t, ht, rfl⟩ := Option.map_eq_some_iff.1 hj
        have := h2 j (List.getElem?_eq_some_iff.1 ht).1
        rw [Addr.add_mid, this, List.getD_eq_getElem?_getD, ht]; rfl
    · intro u hu
      obtain ⟨t, _, rfl⟩ := List.mem_map.1 hu
      rfl
    · intro v' w' hown hgrow _
      rw [Nat.zero_add, List.nil_append] at hown
      obtain ⟨A', c', rfl⟩ := Sm.own_shape hown
      exact K A' c' w' ⟨by rw [← hn]; exact hown, fun q hq e => by have := (hown.lt q hq).1; omega⟩ ((Below.refl _ w).grown hgrow (Nat.le_refl _) (fun q hq => by cases hq))
end Lg
end Go.Proofs.YtnmagfodjcookaaGreat
