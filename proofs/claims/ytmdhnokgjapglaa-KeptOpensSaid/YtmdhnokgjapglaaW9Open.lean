/-
  The world of a Kept and the document's, on their disks; both opened again.
-/
import Derived.Test.YtmdhnokgjapglaaR9Put
import Derived.Test.YtmdhnokgjapglaaKpOne
namespace Go.Proofs.Ytmdhnokgjapglaa
open Go.RowKit
namespace Kp
def kptr (ko : Option Nat) : Value := .pointer (ko.map fun k => ⟨k, 0, none⟩)
def kks (ko : Option Nat) (K : Md) : Array Value := match ko with | some _ => kv K | none => kz
theorem kks_six (ko : Option Nat) (K : Md) : ∃ q0 q1 q2 q3 q4 q5, kks ko K = #[q0, q1, q2, q3, q4, q5] := by
  cases ko with
  | some k => exact ⟨_, _, _, _, _, _, rfl⟩
  | none => exact ⟨_, _, _, _, _, _, rfl⟩
/-- The thirteen cells of a world. -/
def wcells (r : Nat) (kp : Value) (d : Array Value) (ks : Array Value) (n : Int) : Array Value := #[.pointer (some ⟨r, 0, none⟩), kp] ++ d ++ ks ++ #[.int .i64 n]
structure W9 (B : Nat) (w0 w : World) (X r : Nat) (fp : Nat → Prop) (M : Dk.Md) (sA : Option Addr) (sn sc : Nat) (sB : Option Addr) (sm sd : Nat) (f : Int) (o : Bool) (ko : Option Nat) (K : Md) (n : Int) : Prop where
  disk : Dk.Own B w0 w r fp M
  ref : Dk.RefAt w (fun q => fp q ∨ q = X ∨ ko = some q) (.agg #[.slice sA sn sc, .slice sB sm sd, .int .i64 f, .bool o]) M
  box : w.heap[X]? = some (.cells (wcells r (kptr ko) #[.slice sA sn sc, .slice sB sm sd, .int .i64 f, .bool o] (kks ko K) n) 41 (0, 0))
  off : ¬ fp X
  low : B ≤ X
  kept : ∀ k, ko = some k → Kp.At w k r K ∧ ¬ fp k ∧ B ≤ k ∧ k ≠ X ∧ Fit K M
section
variable {B : Nat} {w0 w w' : World} {X r : Nat} {fp : Nat → Prop} {M : Dk.Md} {sA : Option Addr} {sn sc : Nat} {sB : Option Addr} {sm sd : Nat} {f : Int} {o : Bool} {ko : Option Nat} {K : Md} {n : Int}
theorem W9.low' (h : W9 B w0 w X r fp M sA sn sc sB sm sd f o ko K n) (k : Below w.heap.size w w') : W9 B w0 w' X r fp M sA sn sc sB sm sd f o ko K n :=
  ⟨h.disk.low k, h.ref.low k, (k.block X (Sm.lt_of h.box)).trans h.box, h.off, h.low, fun q e => by
    obtain ⟨h1, h2⟩ := h.kept q e
    exact ⟨h1.low k, h2⟩⟩
theorem W9.lt (h : W9 B w0 w X r fp M sA sn sc sB sm sd f o ko K n) : ∀ q, (fp q ∨ q = X ∨ ko = some q) → q < w.heap.size := fun q e => by
  rcases e with e | e | e
  · exact h.disk.lt q e
  · rw [e]; exact Sm.lt_of h.box
  · exact Sm.lt_of (h.kept q e).1
end
theorem set8 {w : World} {X : Nat} {c0 c1 c2 c3 c4 c5 c6 c7 c8 c9 c10 c11 c12 : Value} {t : TypeId} {q : Nat × Nat} (h : w.heap[X]? = some (.cells #[c0, c1, c2, c3, c4, c5, c6, c7, c8, c9, c10, c11, c12] t q)) (a b0 b1 b2 b3 b4 b5 e : Value) :
    ((((((((w.setCell ⟨X, 1, none⟩ (a)).setCell ⟨X, 6, none⟩ (b0)).setCell ⟨X, 7, none⟩ (b1)).setCell ⟨X, 8, none⟩ (b2)).setCell ⟨X, 9, none⟩ (b3)).setCell ⟨X, 10, none⟩ (b4)).setCell ⟨X, 11, none⟩ (b5)).setCell ⟨X, 12, none⟩ (e)).heap[X]? = some (.cells #[c0, a, c2, c3, c4, c5, b0, b1, b2, b3, b4, b5, e] t q) := by
  rw [Sm.heap_set (Sm.heap_set (Sm.heap_set (Sm.heap_set (Sm.heap_set (Sm.heap_set (Sm.heap_set (Sm.heap_set h 1 a) 6 b0) 7 b1) 8 b2) 9 b3) 10 b4) 11 b5) 12 e]
  simp
theorem set8_turned (w : World) (X : Nat) (a b0 b1 b2 b3 b4 b5 e : Value) : Dk.Turned (fun q => q = X) w ((((((((w.setCell ⟨X, 1, none⟩ (a)).setCell ⟨X, 6, none⟩ (b0)).setCell ⟨X, 7, none⟩ (b1)).setCell ⟨X, 8, none⟩ (b2)).setCell ⟨X, 9, none⟩ (b3)).setCell ⟨X, 10, none⟩ (b4)).setCell ⟨X, 11, none⟩ (b5)).setCell ⟨X, 12, none⟩ (e)) := by
  have h0 := turned_set w X 1 a
  have h1 := h0.trans (turned_set (w.setCell ⟨X, 1, none⟩ (a)) X 6 b0)
  have h2 := h1.trans (turned_set ((w.setCell ⟨X, 1, none⟩ (a)).setCell ⟨X, 6, none⟩ (b0)) X 7 b1)
  have h3 := h2.trans (turned_set (((w.setCell ⟨X, 1, none⟩ (a)).setCell ⟨X, 6, none⟩ (b0)).setCell ⟨X, 7, none⟩ (b1)) X 8 b2)
  have h4 := h3.trans (turned_set ((((w.setCell ⟨X, 1, none⟩ (a)).setCell ⟨X, 6, none⟩ (b0)).setCell ⟨X, 7, none⟩ (b1)).setCell ⟨X, 8, none⟩ (b2)) X 9 b3)
  have h5 := h4.trans (turned_set (((((w.setCell ⟨X, 1, none⟩ (a)).setCell ⟨X, 6, none⟩ (b0)).setCell ⟨X, 7, none⟩ (b1)).setCell ⟨X, 8, none⟩ (b2)).setCell ⟨X, 9, none⟩ (b3)) X 10 b4)
  have h6 := h5.trans (turned_set ((((((w.setCell ⟨X, 1, none⟩ (a)).setCell ⟨X, 6, none⟩ (b0)).setCell ⟨X, 7, none⟩ (b1)).setCell ⟨X, 8, none⟩ (b2)).setCell ⟨X, 9, none⟩ (b3)).setCell ⟨X, 10, none⟩ (b4)) X 11 b5)
  have h7 := h6.trans (turned_set (((((((w.setCell ⟨X, 1, none⟩ (a)).setCell ⟨X, 6, none⟩ (b0)).setCell ⟨X, 7, none⟩ (b1)).setCell ⟨X, 8, none⟩ (b2)).setCell ⟨X, 9, none⟩ (b3)).setCell ⟨X, 10, none⟩ (b4)).setCell ⟨X, 11, none⟩ (b5)) X 12 e)
  exact h7
theorem alloc6 (w : World) {c0 c1 c2 c3 c4 c5 : Value} (t : TypeId) (a b c d e f : Value) :
    Below w.heap.size w (((((((w.alloc (.cells #[c0, c1, c2, c3, c4, c5] t)).setCell ⟨w.heap.size, 0, none⟩ a).setCell ⟨w.heap.size, 1, none⟩ b).setCell ⟨w.heap.size, 2, none⟩ c).setCell ⟨w.heap.size, 3, none⟩ d).setCell ⟨w.heap.size, 4, none⟩ e).setCell ⟨w.heap.size, 5, none⟩ f) ∧
      (((((((w.alloc (.cells #[c0, c1, c2, c3, c4, c5] t)).setCell ⟨w.heap.size, 0, none⟩ a).setCell ⟨w.heap.size, 1, none⟩ b).setCell ⟨w.heap.size, 2, none⟩ c).setCell ⟨w.heap.size, 3, none⟩ d).setCell ⟨w.heap.size, 4, none⟩ e).setCell ⟨w.heap.size, 5, none⟩ f).heap[w.heap.size]? = some (.cells #[a, b, c, d, e, f] t (0, 0)) := by
  have h := set6 (heap_alloc_new w (.cells #[c0, c1, c2, c3, c4, c5] t)) rfl a b c d e f
  have k := turned6 (w.alloc (.cells #[c0, c1, c2, c3, c4, c5] t)) w.heap.size a b c d e f
  have b1 : Below w.heap.size w (w.alloc (.cells #[c0, c1, c2, c3, c4, c5] t)) := (Below.refl _ w).alloc (Nat.le_refl _) _
  exact ⟨b1.trans (k.below (fun q e => by omega) (by simp)), h⟩
theorem six_other (w : World) (X : Nat) (b0 b1 b2 b3 b4 b5 : Value) (i : Nat) (h : i ≠ X) : ((((((w.setCell ⟨X, 6, none⟩ b0).setCell ⟨X, 7, none⟩ b1).setCell ⟨X, 8, none⟩ b2).setCell ⟨X, 9, none⟩ b3).setCell ⟨X, 10, none⟩ b4).setCell ⟨X, 11, none⟩ b5).heap[i]? = w.heap[i]? := by
  rw [Below.heap_setCell _ _ _ _ h, Below.heap_setCell _ _ _ _ h, Below.heap_setCell _ _ _ _ h, Below.heap_setCell _ _ _ _ h, Below.heap_setCell _ _ _ _ h, Below.heap_setCell _ _ _ _ h]
theorem info_kpt9 {c : List Value} (h : c.length = 6) : (Try.prog.info? 39).map (·.size) = some c.length := by rw [h]; kernel_rfl
theorem openErr_nonneg (M : Dk.Md) (a : Int) : openErr M a = 0 ∨ openErr M a = 1 ∨ openErr M a = 14 ∨ openErr M a = 9 := by
  unfold openErr
  split
  · exact .inr (.inl rfl)
  · split
    · exact .inr (.inr (.inl rfl))
    · split
      · exact .inr (.inr (.inr rfl))
      · exact .inl rfl
theorem openErr_at {M : Dk.Md} {a : Int} (h : openErr M a = 0) : 0 ≤ a ∧ a + 20 ≤ M.lasts.length := by
  unfold openErr at h
  split at h
  · cases h
  · omega
end Kp
set_option maxRecDepth 100000 in
set_option maxHeartbeats 4000000 in
theorem w9open_any {B : Nat} {w0 w : World} {X r : Nat} {fp : Nat → Prop} {M : Dk.Md} {sA : Option Addr} {sn sc : Nat} {sB : Option Addr} {sm sd : Nat} {f : Int} {o : Bool} {ko : Option Nat} {K : Kp.Md} {n : Int}
    (h : Kp.W9 B w0 w X r fp M sA sn sc sB sm sd f o ko K n) (hq : Dk.waits M ≤ 1099511627775) (a : Int) :
    Calls Try.prog 9 #[.pointer (some ⟨X, 0, none⟩), .int .i64 a] w fun e w' => ∃ ko' K' n', e = .returned (.bool true) ∧ Kp.W9 B w0 w' X r fp M sA sn sc sB sm sd f o ko' K' n' ∧ (ko' = none ↔ n' ≠ 0) ∧ (∀ k, ko' = some k → K'.from_ = a) ∧ Dk.Turned (fun q => q = X) w w' := by
  have HW := Lib.hid h
  have HQ := Lib.hid hq
  have hlen : M.lasts.length ≤ 4096 := h.disk.disk.ok.n.2
  obtain ⟨kp, hkp⟩ : ∃ v, v = Kp.kptr ko := ⟨_, rfl⟩
  obtain ⟨q0, q1, q2, q3, q4, q5, hks⟩ := Kp.kks_six ko K
  have hbox : w.heap[X]? = some (.cells #[.pointer (some ⟨r, 0, none⟩), kp, .slice sA sn sc, .slice sB sm sd, .int .i64 f, .bool o, q0, q1, q2, q3, q4, q5, .int .i64 n] 41 (0, 0)) := by rw [h.box, hks, ← hkp]; rfl
  have OP : Hid (∀ wx, Dk.Own B w0 wx r fp M → Calls Try.prog 16 #[.pointer (some ⟨r, 0, none⟩), .int .i64 a] wx fun e w' => Below wx.heap.size wx w' ∧ ((Kp.openErr M a ≠ 0 ∧ e = .returned (.tuple #[.pointer none, .int .i64 (Kp.openErr M a)])) ∨ (Kp.openErr M a = 0 ∧ ∃ k, e = .returned (.tuple #[.pointer (some ⟨k, 0, none⟩), .int .i64 0]) ∧ Kp.At w' k r (Kp.opened (Kp.sees M a) a) ∧ wx.heap.size ≤ k))) := fun wx hx => kpOpen_any hx a
  have RO : Hid (∀ wx fpx, Dk.RefAt wx fpx (.agg #[.slice sA sn sc, .slice sB sm sd, .int .i64 f, .bool o]) M → Calls Try.prog 17 #[.agg #[.slice sA sn sc, .slice sB sm sd, .int .i64 f, .bool o], .int .i64 a] wx fun e w' => Below wx.heap.size wx w' ∧ ((Kp.openErr M a ≠ 0 ∧ e = .returned (.tuple #[.agg Kp.kz, .int .i64 (Kp.openErr M a)])) ∨ (Kp.openErr M a = 0 ∧ e = .returned (.tuple #[.agg (Kp.kv (Kp.opened (Kp.sees M a) a)), .int .i64 0])))) := fun wx fpx hx => r9Open_any hx HQ.out hlen a
  have HLEN := Lib.hid hlen
  clear h hq hkp hks hlen
  have HBOX := Lib.hid hbox
  by_cases h0 : Kp.openErr M a ≠ 0
  · obtain ⟨E, hE⟩ : ∃ E, E = Kp.openErr M a := ⟨_, rfl⟩
    have hE0 : (E == 0) = false := beq_eq_false_iff_ne.2 (by rw [hE]; exact h0)
    have hE1 : (E != 0) = true := by simp [bne, hE0]
    have OP2 : Hid (∀ wx, Dk.Own B w0 wx r fp M → Calls Try.prog 16 #[.pointer (some ⟨r, 0, none⟩), .int .i64 a] wx fun e w' => e = .returned (.tuple #[.pointer none, .int .i64 E]) ∧ Below wx.heap.size wx w') := fun wx hx => (OP.out wx hx).mono fun e w' hh => by
      rcases hh with ⟨h1, ⟨_, h2⟩ | ⟨h2, _⟩⟩
      · exact ⟨by rw [h2, hE], h1⟩
      · exact absurd h2 h0
    have RO2 : Hid (∀ wx fpx, Dk.RefAt wx fpx (.agg #[.slice sA sn sc, .slice sB sm sd, .int .i64 f, .bool o]) M → Calls Try.prog 17 #[.agg #[.slice sA sn sc, .slice sB sm sd, .int .i64 f, .bool o], .int .i64 a] wx fun e w' => e = .returned (.tuple #[.agg #[.int .i64 0, .string ⟨#[]⟩, .int .u64 0, .int .i64 0, .int .u64 0, .bool false], .int .i64 E]) ∧ Below wx.heap.size wx w') := fun wx fpx hx => (RO.out wx fpx hx).mono fun e w' hh => by
      rcases hh with ⟨h1, ⟨_, h2⟩ | ⟨h2, _⟩⟩
      · exact ⟨by rw [h2, hE]; rfl, h1⟩
      · exact absurd h2 h0
    have HE0 : Hid (E ≠ 0) := by rw [hE]; exact h0
    clear OP RO hE h0
    have x0 := Sm.cells_of hbox 0 _ rfl
    clear hbox
    go_enter Try.func9, Try.ntmps9
    go_upto_region 2 with (go_at_call 16; refine (OP2.out _ HW.out.disk).mono ?_; rintro e w1 ⟨rfl, k1⟩)
    have h1 := HW.out.low' k1
    have hbox1 : w1.heap[X]? = some (.cells #[.pointer (some ⟨r, 0, none⟩), kp, .slice sA sn sc, .slice sB sm sd, .int .i64 f, .bool o, q0, q1, q2, q3, q4, q5, .int .i64 n] 41 (0, 0)) := (k1.block X (Sm.lt_of HBOX.out)).trans HBOX.out
    have hs1 := k1.size
    clear x0
    have x2 := Sm.cells_of hbox1 2 _ rfl; have x3 := Sm.cells_of hbox1 3 _ rfl; have x4 := Sm.cells_of hbox1 4 _ rfl; have x5 := Sm.cells_of hbox1 5 _ rfl
    have H1 := Lib.hid h1
    have HB1 := Lib.hid hbox1
    clear h1 hbox1
    go_wp2_with fail
    refine (RO2.out _ _ H1.out.ref).mono ?_
    rintro e w2 ⟨rfl, k2⟩
    have hz := heap_alloc_new w2 (.cells #[.int .i64 0, .string ⟨#[]⟩, .int .u64 0, .int .i64 0, .int .u64 0, .bool false] 39)
    have z0 := Sm.cells_of hz 0 _ rfl; have z1 := Sm.cells_of hz 1 _ rfl; have z2 := Sm.cells_of hz 2 _ rfl; have z3 := Sm.cells_of hz 3 _ rfl; have z4 := Sm.cells_of hz 4 _ rfl; have z5 := Sm.cells_of hz 5 _ rfl
    have zf0 := Sm.free_of hz 0; have zf1 := Sm.free_of hz 1; have zf2 := Sm.free_of hz 2; have zf3 := Sm.free_of hz 3; have zf4 := Sm.free_of hz 4; have zf5 := Sm.free_of hz 5
    go_upto_region 3 with (fail)
    clear x2 x3 x4 x5 z0 z1 z2 z3 z4 z5 zf0 zf1 zf2 zf3 zf4 zf5 hz
    have al1 : Below w2.heap.size w2 (w2.alloc (.cells #[.int .i64 0, .string ⟨#[]⟩, .int .u64 0, .int .i64 0, .int .u64 0, .bool false] 39)) := (Below.refl _ w2).alloc (Nat.le_refl _) _
    have al2 := heap_alloc_new w2 (.cells #[.int .i64 0, .string ⟨#[]⟩, .int .u64 0, .int .i64 0, .int .u64 0, .bool false] 39)
    have b3 := k2.trans (al1.mono k2.size)
    have hXN : X < w2.heap.size := by have h1 := Sm.lt_of HB1.out; have h2 := k2.size; omega
    obtain ⟨N, hN⟩ : ∃ N, N = w2.heap.size := ⟨_, rfl⟩
    rw [← hN] at al1 al2 hXN ⊢
    clear hN al1
    generalize w2.alloc (.cells #[.int .i64 0, .string ⟨#[]⟩, .int .u64 0, .int .i64 0, .int .u64 0, .bool false] 39) = w3 at *
    have h3 := H1.out.low' (w' := w3.drew) (by exact ⟨b3.os, b3.tape, b3.output, b3.size, b3.block⟩)
    have hbox3 : w3.drew.heap[X]? = some (.cells #[.pointer (some ⟨r, 0, none⟩), kp, .slice sA sn sc, .slice sB sm sd, .int .i64 f, .bool o, q0, q1, q2, q3, q4, q5, .int .i64 n] 41 (0, 0)) := (b3.block X (Sm.lt_of HB1.out)).trans HB1.out
    obtain ⟨kl, hkl⟩ : ∃ l : List Value, l = [.int .i64 0, .string ⟨#[]⟩, .int .u64 0, .int .i64 0, .int .u64 0, .bool false] := ⟨_, rfl⟩
    have hkl6 : kl.length = 6 := by rw [hkl]; rfl
    have hka : kl.toArray = #[.int .i64 0, .string ⟨#[]⟩, .int .u64 0, .int .i64 0, .int .u64 0, .bool false] := by rw [hkl]
    have hd2 : w3.drew.heap[N]? = some (.cells kl.toArray 39 (0, 0)) := by rw [hka]; exact al2
    have x1 := Sm.cells_of hbox3 1 _ rfl; have x6 := Sm.cells_of hbox3 6 _ rfl; have x7 := Sm.cells_of hbox3 7 _ rfl; have x8 := Sm.cells_of hbox3 8 _ rfl; have x9 := Sm.cells_of hbox3 9 _ rfl; have x10 := Sm.cells_of hbox3 10 _ rfl; have x11 := Sm.cells_of hbox3 11 _ rfl; have x12 := Sm.cells_of hbox3 12 _ rfl
    have xf1 := Sm.free_of hbox3 1; have xf6 := Sm.free_of hbox3 6; have xf7 := Sm.free_of hbox3 7; have xf8 := Sm.free_of hbox3 8; have xf9 := Sm.free_of hbox3 9; have xf10 := Sm.free_of hbox3 10; have xf11 := Sm.free_of hbox3 11; have xf12 := Sm.free_of hbox3 12
    have BD : Hid (Below w.heap.size w w3.drew) := (k1.trans (b3.mono k1.size)) |> fun h => ⟨h.os, h.tape, h.output, h.size, h.block⟩
    
    have H3 := Lib.hid h3
    have HB3 := Lib.hid hbox3
    have HKA := Lib.hid hka
    clear h3 hbox3 b3 al2 k2 hkl hka
    refine wp_region_held_drew (S := (fun w' => w'.heap[N]? = some (.cells kl.toArray 39 (0, 0)))) (by kernel_rfl) hd2 (fun hHeld => ?_)
    generalize w3.drew = wd at *
    refine wpAnyH_take (i := 0) (oi := ⟨some 27, _, _, _, _, _⟩) (v := .pointer (some ⟨X, 0, none⟩)) rfl (by kernel_rfl) (by kernel_rfl) (by kernel_rfl) (fun _ _ _ h => h) (Or.inl ⟨by rfl, ?_⟩) (by assumption) ?_
    · intro w hSw; (try dsimp only at hSw); go_simp
    simp only [Act.put, List.setIfInBounds_toArray, List.set_cons_zero, List.set_cons_succ]
    refine wpAnyH_take (i := 1) (oi := ⟨some 28, _, _, _, _, _⟩) (v := .pointer (some ⟨X, 0, none⟩)) rfl (by kernel_rfl) (by kernel_rfl) (by kernel_rfl) (fun _ _ _ h => h) (Or.inl ⟨by rfl, ?_⟩) (by assumption) ?_
    · intro w hSw; (try dsimp only at hSw); go_simp
    simp only [Act.put, List.setIfInBounds_toArray, List.set_cons_zero, List.set_cons_succ]
    refine wpAnyH_take (i := 2) (oi := ⟨some 29, _, _, _, _, _⟩) (v := .pointer (some ⟨X, 0, none⟩)) rfl (by kernel_rfl) (by kernel_rfl) (by kernel_rfl) (fun _ _ _ h => h) (Or.inl ⟨by rfl, ?_⟩) (by assumption) ?_
    · intro w hSw; (try dsimp only at hSw); go_simp
    simp only [Act.put, List.setIfInBounds_toArray, List.set_cons_zero, List.set_cons_succ]
    refine wpAnyH_take (i := 3) (oi := ⟨some 30, _, _, _, _, _⟩) (v := .pointer none) rfl (by kernel_rfl) (by kernel_rfl) (by kernel_rfl) (fun _ _ _ h => h) (Or.inl ⟨by rfl, ?_⟩) (by assumption) ?_
    · intro w hSw; (try dsimp only at hSw); go_simp
    simp only [Act.put, List.setIfInBounds_toArray, List.set_cons_zero, List.set_cons_succ]
    refine wpAnyH_take (i := 4) (oi := ⟨some 31, _, _, _, _, _⟩) (v := .agg kl.toArray) rfl (by kernel_rfl) (by kernel_rfl) (by kernel_rfl) (fun _ _ _ h => h) (yieldsIf_load_mid (by rfl) _ _ rfl _ _ rfl kl _ (fun w hS => Sm.range_row hS) Try.underlying39 rfl (Kp.info_kpt9 hkl6)) (by assumption) ?_
    simp only [Act.put, List.setIfInBounds_toArray, List.set_cons_zero, List.set_cons_succ]
    refine wpAnyH_take (i := 5) (oi := ⟨some 32, _, _, _, _, _⟩) (v := .int .i64 E) rfl (by kernel_rfl) (by kernel_rfl) (by kernel_rfl) (fun _ _ _ h => h) (Or.inl ⟨by rfl, ?_⟩) (by assumption) ?_
    · intro w hSw; (try dsimp only at hSw); go_simp
    simp only [Act.put, List.setIfInBounds_toArray, List.set_cons_zero, List.set_cons_succ]
    refine wpAnyH_take (i := 6) (oi := ⟨some 33, _, _, _, _, _⟩) (v := .pointer (some ⟨X, 0, none⟩)) rfl (by kernel_rfl) (by kernel_rfl) (by kernel_rfl) (fun _ _ _ h => h) (Or.inl ⟨by rfl, ?_⟩) (by assumption) ?_
    · intro w hSw; (try dsimp only at hSw); go_simp
    simp only [Act.put, List.setIfInBounds_toArray, List.set_cons_zero, List.set_cons_succ]
    refine wpAnyH_take (i := 7) (oi := ⟨some 34, _, _, _, _, _⟩) (v := .pointer (some ⟨X, 1, none⟩)) rfl (by kernel_rfl) (by kernel_rfl) (by kernel_rfl) (fun _ _ _ h => h) (Or.inl ⟨by rfl, ?_⟩) (by assumption) ?_
    · intro w hSw; (try dsimp only at hSw); go_simp
    simp only [Act.put, List.setIfInBounds_toArray, List.set_cons_zero, List.set_cons_succ]
    refine wpAnyH_ready (rs := [8]) (by kernel_rfl) (by simp) ?_
    refine (AllReadyH.cons (o := ⟨none, _, _, _, _, _⟩) rfl (fun K hK => ?_) AllReadyH.nil)
    go_simp
    refine hK.out _ _ ((Below.heap_setCell _ ⟨X, 1, none⟩ _ _ (by simp; omega)).trans hd2) (fun hHeld => ?_)
    clear hK K
    refine wpAnyH_take (i := 9) (oi := ⟨some 35, _, _, _, _, _⟩) (v := .pointer (some ⟨X, 0, none⟩)) rfl (by kernel_rfl) (by kernel_rfl) (by kernel_rfl) (fun _ _ _ h => h) (Or.inl ⟨by rfl, ?_⟩) (by assumption) ?_
    · intro w hSw; (try dsimp only at hSw); go_simp
    simp only [Act.put, List.setIfInBounds_toArray, List.set_cons_zero, List.set_cons_succ]
    refine wpAnyH_take (i := 10) (oi := ⟨some 36, _, _, _, _, _⟩) (v := .pointer (some ⟨X, 6, none⟩)) rfl (by kernel_rfl) (by kernel_rfl) (by kernel_rfl) (fun _ _ _ h => h) (Or.inl ⟨by rfl, ?_⟩) (by assumption) ?_
    · intro w hSw; (try dsimp only at hSw); go_simp
    simp only [Act.put, List.setIfInBounds_toArray, List.set_cons_zero, List.set_cons_succ]
    refine wpAnyH_ready (rs := [11]) (by kernel_rfl) (by simp) ?_
    refine (AllReadyH.cons (o := ⟨none, _, _, _, _, _⟩) rfl (fun K hK => ?_) AllReadyH.nil)
    rw [HKA.out]
    go_simp
    refine hK.out _ _ ((Kp.six_other _ X _ _ _ _ _ _ N (by omega)).trans ((Below.heap_setCell _ ⟨X, 1, none⟩ _ _ (by simp; omega)).trans hd2)) (fun hHeld => ?_)
    clear hK K
    refine wpAnyH_take (i := 12) (oi := ⟨some 37, _, _, _, _, _⟩) (v := .pointer (some ⟨X, 0, none⟩)) rfl (by kernel_rfl) (by kernel_rfl) (by kernel_rfl) (fun _ _ _ h => h) (Or.inl ⟨by rfl, ?_⟩) (by assumption) ?_
    · intro w hSw; (try dsimp only at hSw); go_simp
    simp only [Act.put, List.setIfInBounds_toArray, List.set_cons_zero, List.set_cons_succ]
    refine wpAnyH_take (i := 13) (oi := ⟨some 38, _, _, _, _, _⟩) (v := .pointer (some ⟨X, 12, none⟩)) rfl (by kernel_rfl) (by kernel_rfl) (by kernel_rfl) (fun _ _ _ h => h) (Or.inl ⟨by rfl, ?_⟩) (by assumption) ?_
    · intro w hSw; (try dsimp only at hSw); go_simp
    simp only [Act.put, List.setIfInBounds_toArray, List.set_cons_zero, List.set_cons_succ]
    refine wpAnyH_ready (rs := [14]) (by kernel_rfl) (by simp) ?_
    refine (AllReadyH.cons (o := ⟨none, _, _, _, _, _⟩) rfl (fun K hK => ?_) AllReadyH.nil)
    go_simp
    refine hK.out _ _ ((Below.heap_setCell _ ⟨X, 12, none⟩ _ _ (by simp; omega)).trans ((Kp.six_other _ X _ _ _ _ _ _ N (by omega)).trans ((Below.heap_setCell _ ⟨X, 1, none⟩ _ _ (by simp; omega)).trans hd2))) (fun hHeld => ?_)
    clear hK K
    refine wpAnyH_done (by kernel_rfl) ?_ _
    clear hHeld
    have SB := Kp.set8 HB3.out (.pointer none) (.int .i64 0) (.string ⟨#[]⟩) (.int .u64 0) (.int .i64 0) (.int .u64 0) (.bool false) (.int .i64 E)
    have ST := Kp.set8_turned wd X (.pointer none) (.int .i64 0) (.string ⟨#[]⟩) (.int .u64 0) (.int .i64 0) (.int .u64 0) (.bool false) (.int .i64 E)
    generalize ((((((((wd.setCell ⟨X, 1, none⟩ (.pointer none)).setCell ⟨X, 6, none⟩ (.int .i64 0)).setCell ⟨X, 7, none⟩ (.string ⟨#[]⟩)).setCell ⟨X, 8, none⟩ (.int .u64 0)).setCell ⟨X, 9, none⟩ (.int .i64 0)).setCell ⟨X, 10, none⟩ (.int .u64 0)).setCell ⟨X, 11, none⟩ (.bool false)).setCell ⟨X, 12, none⟩ (.int .i64 E)) = we at SB ST ⊢
    have WE : Hid (Kp.W9 B w0 we X r fp M sA sn sc sB sm sd f o (none) K E) := by
      refine ⟨H3.out.disk.other ST (fun q h1 h2 => H3.out.off (h2 ▸ h1)) (fun q h => h ▸ H3.out.low), ?_, ?_, H3.out.off, H3.out.low, ?_⟩
      · refine Dk.RefAt.turned ((HW.out.ref.off (fp' := fun q => fp q ∨ q = X ∨ (none : Option Nat) = some q) fun g hg e => ?_).low BD.out) (ST.mono fun i e => .inr (.inl e)) fun _ => .inl
        rcases e with e | e | e
        · exact .inl e
        · exact .inr (.inl e)
        · cases e
      · rw [SB]; rfl
      · intro q e; cases e
    have TU : Hid (Dk.Turned (fun q => q = X) w we) := (Dk.Turned.of_below BD.out (Nat.le_refl _)).trans ST
    clear SB ST
    go_wp2
    go_ret
    exact ⟨none, K, E, rfl, WE.out, ⟨fun _ => HE0.out, fun _ => rfl⟩, fun k e => (by cases e), TU.out⟩
  · have h0 : Kp.openErr M a = 0 := Decidable.not_not.1 h0
    have KX := Lib.hid (Kp.openErr_at h0)
    obtain ⟨K2, hK2⟩ : ∃ K, K = Kp.opened (Kp.sees M a) a := ⟨_, rfl⟩
    have FITX : Hid (Kp.Fit K2 M) := by rw [hK2]; exact Kp.opened_fit KX.out
    have FRX : Hid (K2.from_ = a) := by rw [hK2]; rfl
    have hbr : K2.broken = false := by rw [hK2]; rfl
    have OP2 : Hid (∀ wx, Dk.Own B w0 wx r fp M → Calls Try.prog 16 #[.pointer (some ⟨r, 0, none⟩), .int .i64 a] wx fun e w' => ∃ k, e = .returned (.tuple #[.pointer (some ⟨k, 0, none⟩), .int .i64 0]) ∧ Kp.At w' k r K2 ∧ wx.heap.size ≤ k ∧ Below wx.heap.size wx w') := fun wx hx => (OP.out wx hx).mono fun e w' hh => by
      rcases hh with ⟨h1, ⟨h2, _⟩ | ⟨_, k, h2, h3, h4⟩⟩
      · exact absurd h0 h2
      · exact ⟨k, h2, by rw [hK2]; exact h3, h4, h1⟩
    obtain ⟨ts, hts⟩ : ∃ b : ByteArray, b = ⟨K2.text.toArray⟩ := ⟨_, rfl⟩
    obtain ⟨sl, hsl⟩ : ∃ x : Int, x = 1 - (K2.next : Int) := ⟨_, rfl⟩
    obtain ⟨g, hg⟩ : ∃ x, x = K2.gen := ⟨_, rfl⟩
    obtain ⟨se, hse⟩ : ∃ x, x = K2.seen := ⟨_, rfl⟩
    have KV : Hid (Kp.kv K2 = #[.int .i64 a, .string ts, .int .u64 (g : Int), .int .i64 sl, .int .u64 (se : Int), .bool false]) := by
      show _ = _
      rw [Kp.kv, hts, hsl, hg, hse, hbr, FRX.out]
    have RO2 : Hid (∀ wx fpx, Dk.RefAt wx fpx (.agg #[.slice sA sn sc, .slice sB sm sd, .int .i64 f, .bool o]) M → Calls Try.prog 17 #[.agg #[.slice sA sn sc, .slice sB sm sd, .int .i64 f, .bool o], .int .i64 a] wx fun e w' => e = .returned (.tuple #[.agg #[.int .i64 a, .string ts, .int .u64 (g : Int), .int .i64 sl, .int .u64 (se : Int), .bool false], .int .i64 0]) ∧ Below wx.heap.size wx w') := fun wx fpx hx => (RO.out wx fpx hx).mono fun e w' hh => by
      rcases hh with ⟨h1, ⟨h2, _⟩ | ⟨_, h2⟩⟩
      · exact absurd h0 h2
      · exact ⟨by rw [h2, ← hK2, KV.out], h1⟩
    clear OP RO h0 hK2 hbr hts hsl hg hse
    have x0 := Sm.cells_of hbox 0 _ rfl
    clear hbox
    go_enter Try.func9, Try.ntmps9
    go_upto_region 2 with (go_at_call 16; refine (OP2.out _ HW.out.disk).mono ?_; rintro e w1 ⟨k, rfl, at1, hk1, k1⟩)
    have h1 := HW.out.low' k1
    have hbox1 : w1.heap[X]? = some (.cells #[.pointer (some ⟨r, 0, none⟩), kp, .slice sA sn sc, .slice sB sm sd, .int .i64 f, .bool o, q0, q1, q2, q3, q4, q5, .int .i64 n] 41 (0, 0)) := (k1.block X (Sm.lt_of HBOX.out)).trans HBOX.out
    have hs1 := k1.size
    clear x0
    have x2 := Sm.cells_of hbox1 2 _ rfl; have x3 := Sm.cells_of hbox1 3 _ rfl; have x4 := Sm.cells_of hbox1 4 _ rfl; have x5 := Sm.cells_of hbox1 5 _ rfl
    have H1 := Lib.hid h1
    have HB1 := Lib.hid hbox1
    clear h1 hbox1
    go_wp2_with fail
    refine (RO2.out _ _ H1.out.ref).mono ?_
    rintro e w2 ⟨rfl, k2⟩
    have hz := heap_alloc_new w2 (.cells #[.int .i64 0, .string ⟨#[]⟩, .int .u64 0, .int .i64 0, .int .u64 0, .bool false] 39)
    have z0 := Sm.cells_of hz 0 _ rfl; have z1 := Sm.cells_of hz 1 _ rfl; have z2 := Sm.cells_of hz 2 _ rfl; have z3 := Sm.cells_of hz 3 _ rfl; have z4 := Sm.cells_of hz 4 _ rfl; have z5 := Sm.cells_of hz 5 _ rfl
    have zf0 := Sm.free_of hz 0; have zf1 := Sm.free_of hz 1; have zf2 := Sm.free_of hz 2; have zf3 := Sm.free_of hz 3; have zf4 := Sm.free_of hz 4; have zf5 := Sm.free_of hz 5
    go_upto_region 3 with (fail)
    clear x2 x3 x4 x5 z0 z1 z2 z3 z4 z5 zf0 zf1 zf2 zf3 zf4 zf5 hz
    have al1 : Below w2.heap.size w2 (w2.alloc (.cells #[.int .i64 a, .string ts, .int .u64 (g : Int), .int .i64 sl, .int .u64 (se : Int), .bool false] 39)) := (Below.refl _ w2).alloc (Nat.le_refl _) _
    have al2 := heap_alloc_new w2 (.cells #[.int .i64 a, .string ts, .int .u64 (g : Int), .int .i64 sl, .int .u64 (se : Int), .bool false] 39)
    have b3 := k2.trans (al1.mono k2.size)
    have hXN : X < w2.heap.size := by have h1 := Sm.lt_of HB1.out; have h2 := k2.size; omega
    obtain ⟨N, hN⟩ : ∃ N, N = w2.heap.size := ⟨_, rfl⟩
    rw [← hN] at al1 al2 hXN ⊢
    clear hN al1
    generalize w2.alloc (.cells #[.int .i64 a, .string ts, .int .u64 (g : Int), .int .i64 sl, .int .u64 (se : Int), .bool false] 39) = w3 at *
    have h3 := H1.out.low' (w' := w3.drew) (by exact ⟨b3.os, b3.tape, b3.output, b3.size, b3.block⟩)
    have hbox3 : w3.drew.heap[X]? = some (.cells #[.pointer (some ⟨r, 0, none⟩), kp, .slice sA sn sc, .slice sB sm sd, .int .i64 f, .bool o, q0, q1, q2, q3, q4, q5, .int .i64 n] 41 (0, 0)) := (b3.block X (Sm.lt_of HB1.out)).trans HB1.out
    obtain ⟨kl, hkl⟩ : ∃ l : List Value, l = [.int .i64 a, .string ts, .int .u64 (g : Int), .int .i64 sl, .int .u64 (se : Int), .bool false] := ⟨_, rfl⟩
    have hkl6 : kl.length = 6 := by rw [hkl]; rfl
    have hka : kl.toArray = #[.int .i64 a, .string ts, .int .u64 (g : Int), .int .i64 sl, .int .u64 (se : Int), .bool false] := by rw [hkl]
    have hd2 : w3.drew.heap[N]? = some (.cells kl.toArray 39 (0, 0)) := by rw [hka]; exact al2
    have x1 := Sm.cells_of hbox3 1 _ rfl; have x6 := Sm.cells_of hbox3 6 _ rfl; have x7 := Sm.cells_of hbox3 7 _ rfl; have x8 := Sm.cells_of hbox3 8 _ rfl; have x9 := Sm.cells_of hbox3 9 _ rfl; have x10 := Sm.cells_of hbox3 10 _ rfl; have x11 := Sm.cells_of hbox3 11 _ rfl; have x12 := Sm.cells_of hbox3 12 _ rfl
    have xf1 := Sm.free_of hbox3 1; have xf6 := Sm.free_of hbox3 6; have xf7 := Sm.free_of hbox3 7; have xf8 := Sm.free_of hbox3 8; have xf9 := Sm.free_of hbox3 9; have xf10 := Sm.free_of hbox3 10; have xf11 := Sm.free_of hbox3 11; have xf12 := Sm.free_of hbox3 12
    have BD : Hid (Below w.heap.size w w3.drew) := (k1.trans (b3.mono k1.size)) |> fun h => ⟨h.os, h.tape, h.output, h.size, h.block⟩
    have AT : Hid (Kp.At w3.drew k r K2) := (at1.low b3 : Kp.At w3 k r K2)
    have H3 := Lib.hid h3
    have HB3 := Lib.hid hbox3
    have HKA := Lib.hid hka
    clear h3 hbox3 b3 al2 k2 hkl hka
    refine wp_region_held_drew (S := (fun w' => w'.heap[N]? = some (.cells kl.toArray 39 (0, 0)))) (by kernel_rfl) hd2 (fun hHeld => ?_)
    generalize w3.drew = wd at *
    refine wpAnyH_take (i := 0) (oi := ⟨some 27, _, _, _, _, _⟩) (v := .pointer (some ⟨X, 0, none⟩)) rfl (by kernel_rfl) (by kernel_rfl) (by kernel_rfl) (fun _ _ _ h => h) (Or.inl ⟨by rfl, ?_⟩) (by assumption) ?_
    · intro w hSw; (try dsimp only at hSw); go_simp
    simp only [Act.put, List.setIfInBounds_toArray, List.set_cons_zero, List.set_cons_succ]
    refine wpAnyH_take (i := 1) (oi := ⟨some 28, _, _, _, _, _⟩) (v := .pointer (some ⟨X, 0, none⟩)) rfl (by kernel_rfl) (by kernel_rfl) (by kernel_rfl) (fun _ _ _ h => h) (Or.inl ⟨by rfl, ?_⟩) (by assumption) ?_
    · intro w hSw; (try dsimp only at hSw); go_simp
    simp only [Act.put, List.setIfInBounds_toArray, List.set_cons_zero, List.set_cons_succ]
    refine wpAnyH_take (i := 2) (oi := ⟨some 29, _, _, _, _, _⟩) (v := .pointer (some ⟨X, 0, none⟩)) rfl (by kernel_rfl) (by kernel_rfl) (by kernel_rfl) (fun _ _ _ h => h) (Or.inl ⟨by rfl, ?_⟩) (by assumption) ?_
    · intro w hSw; (try dsimp only at hSw); go_simp
    simp only [Act.put, List.setIfInBounds_toArray, List.set_cons_zero, List.set_cons_succ]
    refine wpAnyH_take (i := 3) (oi := ⟨some 30, _, _, _, _, _⟩) (v := .pointer (some ⟨k, 0, none⟩)) rfl (by kernel_rfl) (by kernel_rfl) (by kernel_rfl) (fun _ _ _ h => h) (Or.inl ⟨by rfl, ?_⟩) (by assumption) ?_
    · intro w hSw; (try dsimp only at hSw); go_simp
    simp only [Act.put, List.setIfInBounds_toArray, List.set_cons_zero, List.set_cons_succ]
    refine wpAnyH_take (i := 4) (oi := ⟨some 31, _, _, _, _, _⟩) (v := .agg kl.toArray) rfl (by kernel_rfl) (by kernel_rfl) (by kernel_rfl) (fun _ _ _ h => h) (yieldsIf_load_mid (by rfl) _ _ rfl _ _ rfl kl _ (fun w hS => Sm.range_row hS) Try.underlying39 rfl (Kp.info_kpt9 hkl6)) (by assumption) ?_
    simp only [Act.put, List.setIfInBounds_toArray, List.set_cons_zero, List.set_cons_succ]
    refine wpAnyH_take (i := 5) (oi := ⟨some 32, _, _, _, _, _⟩) (v := .int .i64 0) rfl (by kernel_rfl) (by kernel_rfl) (by kernel_rfl) (fun _ _ _ h => h) (Or.inl ⟨by rfl, ?_⟩) (by assumption) ?_
    · intro w hSw; (try dsimp only at hSw); go_simp
    simp only [Act.put, List.setIfInBounds_toArray, List.set_cons_zero, List.set_cons_succ]
    refine wpAnyH_take (i := 6) (oi := ⟨some 33, _, _, _, _, _⟩) (v := .pointer (some ⟨X, 0, none⟩)) rfl (by kernel_rfl) (by kernel_rfl) (by kernel_rfl) (fun _ _ _ h => h) (Or.inl ⟨by rfl, ?_⟩) (by assumption) ?_
    · intro w hSw; (try dsimp only at hSw); go_simp
    simp only [Act.put, List.setIfInBounds_toArray, List.set_cons_zero, List.set_cons_succ]
    refine wpAnyH_take (i := 7) (oi := ⟨some 34, _, _, _, _, _⟩) (v := .pointer (some ⟨X, 1, none⟩)) rfl (by kernel_rfl) (by kernel_rfl) (by kernel_rfl) (fun _ _ _ h => h) (Or.inl ⟨by rfl, ?_⟩) (by assumption) ?_
    · intro w hSw; (try dsimp only at hSw); go_simp
    simp only [Act.put, List.setIfInBounds_toArray, List.set_cons_zero, List.set_cons_succ]
    refine wpAnyH_ready (rs := [8]) (by kernel_rfl) (by simp) ?_
    refine (AllReadyH.cons (o := ⟨none, _, _, _, _, _⟩) rfl (fun K hK => ?_) AllReadyH.nil)
    go_simp
    refine hK.out _ _ ((Below.heap_setCell _ ⟨X, 1, none⟩ _ _ (by simp; omega)).trans hd2) (fun hHeld => ?_)
    clear hK K
    refine wpAnyH_take (i := 9) (oi := ⟨some 35, _, _, _, _, _⟩) (v := .pointer (some ⟨X, 0, none⟩)) rfl (by kernel_rfl) (by kernel_rfl) (by kernel_rfl) (fun _ _ _ h => h) (Or.inl ⟨by rfl, ?_⟩) (by assumption) ?_
    · intro w hSw; (try dsimp only at hSw); go_simp
    simp only [Act.put, List.setIfInBounds_toArray, List.set_cons_zero, List.set_cons_succ]
    refine wpAnyH_take (i := 10) (oi := ⟨some 36, _, _, _, _, _⟩) (v := .pointer (some ⟨X, 6, none⟩)) rfl (by kernel_rfl) (by kernel_rfl) (by kernel_rfl) (fun _ _ _ h => h) (Or.inl ⟨by rfl, ?_⟩) (by assumption) ?_
    · intro w hSw; (try dsimp only at hSw); go_simp
    simp only [Act.put, List.setIfInBounds_toArray, List.set_cons_zero, List.set_cons_succ]
    refine wpAnyH_ready (rs := [11]) (by kernel_rfl) (by simp) ?_
    refine (AllReadyH.cons (o := ⟨none, _, _, _, _, _⟩) rfl (fun K hK => ?_) AllReadyH.nil)
    rw [HKA.out]
    go_simp
    refine hK.out _ _ ((Kp.six_other _ X _ _ _ _ _ _ N (by omega)).trans ((Below.heap_setCell _ ⟨X, 1, none⟩ _ _ (by simp; omega)).trans hd2)) (fun hHeld => ?_)
    clear hK K
    refine wpAnyH_take (i := 12) (oi := ⟨some 37, _, _, _, _, _⟩) (v := .pointer (some ⟨X, 0, none⟩)) rfl (by kernel_rfl) (by kernel_rfl) (by kernel_rfl) (fun _ _ _ h => h) (Or.inl ⟨by rfl, ?_⟩) (by assumption) ?_
    · intro w hSw; (try dsimp only at hSw); go_simp
    simp only [Act.put, List.setIfInBounds_toArray, List.set_cons_zero, List.set_cons_succ]
    refine wpAnyH_take (i := 13) (oi := ⟨some 38, _, _, _, _, _⟩) (v := .pointer (some ⟨X, 12, none⟩)) rfl (by kernel_rfl) (by kernel_rfl) (by kernel_rfl) (fun _ _ _ h => h) (Or.inl ⟨by rfl, ?_⟩) (by assumption) ?_
    · intro w hSw; (try dsimp only at hSw); go_simp
    simp only [Act.put, List.setIfInBounds_toArray, List.set_cons_zero, List.set_cons_succ]
    refine wpAnyH_ready (rs := [14]) (by kernel_rfl) (by simp) ?_
    refine (AllReadyH.cons (o := ⟨none, _, _, _, _, _⟩) rfl (fun K hK => ?_) AllReadyH.nil)
    go_simp
    refine hK.out _ _ ((Below.heap_setCell _ ⟨X, 12, none⟩ _ _ (by simp; omega)).trans ((Kp.six_other _ X _ _ _ _ _ _ N (by omega)).trans ((Below.heap_setCell _ ⟨X, 1, none⟩ _ _ (by simp; omega)).trans hd2))) (fun hHeld => ?_)
    clear hK K
    refine wpAnyH_done (by kernel_rfl) ?_ _
    clear hHeld
    have SB := Kp.set8 HB3.out (.pointer (some ⟨k, 0, none⟩)) (.int .i64 a) (.string ts) (.int .u64 (g : Int)) (.int .i64 sl) (.int .u64 (se : Int)) (.bool false) (.int .i64 0)
    have ST := Kp.set8_turned wd X (.pointer (some ⟨k, 0, none⟩)) (.int .i64 a) (.string ts) (.int .u64 (g : Int)) (.int .i64 sl) (.int .u64 (se : Int)) (.bool false) (.int .i64 0)
    generalize ((((((((wd.setCell ⟨X, 1, none⟩ (.pointer (some ⟨k, 0, none⟩))).setCell ⟨X, 6, none⟩ (.int .i64 a)).setCell ⟨X, 7, none⟩ (.string ts)).setCell ⟨X, 8, none⟩ (.int .u64 (g : Int))).setCell ⟨X, 9, none⟩ (.int .i64 sl)).setCell ⟨X, 10, none⟩ (.int .u64 (se : Int))).setCell ⟨X, 11, none⟩ (.bool false)).setCell ⟨X, 12, none⟩ (.int .i64 0)) = we at SB ST ⊢
    have WE : Hid (Kp.W9 B w0 we X r fp M sA sn sc sB sm sd f o (some k) K2 0) := by
      refine ⟨H3.out.disk.other ST (fun q h1 h2 => H3.out.off (h2 ▸ h1)) (fun q h => h ▸ H3.out.low), ?_, ?_, H3.out.off, H3.out.low, ?_⟩
      · refine Dk.RefAt.turned ((HW.out.ref.off (fp' := fun q => fp q ∨ q = X ∨ (some k : Option Nat) = some q) fun g hg e => ?_).low BD.out) (ST.mono fun i e => .inr (.inl e)) fun _ => .inl
        rcases e with e | e | e
        · exact .inl e
        · exact .inr (.inl e)
        · have := Option.some.inj e; have := hk1; omega
      · rw [SB]; show _ = some (Obj.cells (Kp.wcells r (Kp.kptr (some k)) _ (Kp.kv K2) 0) _ _); rw [KV.out]; rfl
      · intro q e
        obtain rfl : k = q := Option.some.inj e
        have hX := Sm.lt_of HW.out.box
        exact ⟨(AT.out.turned ST (by omega)), fun e => by have := HW.out.disk.lt _ e; omega, Nat.le_trans HW.out.disk.size hk1, by omega, FITX.out⟩
    have TU : Hid (Dk.Turned (fun q => q = X) w we) := (Dk.Turned.of_below BD.out (Nat.le_refl _)).trans ST
    clear SB ST
    go_wp2
    go_ret
    exact ⟨some k, K2, 0, rfl, WE.out, ⟨fun e => (by cases e), fun e => absurd rfl e⟩, fun _ _ => FRX.out, TU.out⟩
end Go.Proofs.Ytmdhnokgjapglaa
