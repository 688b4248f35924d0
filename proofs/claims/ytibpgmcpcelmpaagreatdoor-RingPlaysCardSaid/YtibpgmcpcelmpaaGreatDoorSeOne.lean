/-
  Texts that belong together, laid into one.
-/
import Derived.Test.YtibpgmcpcelmpaaGreatDoorSeMath
import Derived.Test.YtibpgmcpcelmpaaGreatDoorMAes2
import Derived.Test.YtibpgmcpcelmpaaGreatDoorMMac
import Derived.Test.YtibpgmcpcelmpaaGreatDoorMPack
/-
  What seal's nonceOf makes: a nonce of two numbers.
-/
namespace Go.Proofs.YtibpgmcpcelmpaaGreatDoor
open Go.RowKit
namespace Se
theorem zero12 : (Tryz.prog.info? 125).map (fun i => (i.zero, i.size)) = some (some (.agg (Sm.rowB 12 [])), 12) := by kernel_rfl
theorem shr_byte (x e : Nat) : Value.int .u8 ((x : Int) / 2 ^ e % 256) = .int .u8 ((UInt8.ofNat (x / 2 ^ e)).toNat : Int) := by
  rw [UInt8.toNat_ofNat', Int.natCast_emod, Int.natCast_ediv, Int.natCast_pow]
  rfl
def n1 (boot k : Nat) : List UInt8 := (List.range k).map fun i => UInt8.ofNat (boot / 2 ^ (24 - 8 * i))
def n2 (boot n k : Nat) : List UInt8 := n1 boot 4 ++ (List.range k).map fun i => UInt8.ofNat (n / 2 ^ (56 - 8 * i))
theorem n1_length (boot k : Nat) : (n1 boot k).length = k := by simp [n1]
theorem n2_length (boot n k : Nat) : (n2 boot n k).length = 4 + k := by simp [n2, n1]
theorem n1_snoc (boot k : Nat) : n1 boot (k + 1) = n1 boot k ++ [UInt8.ofNat (boot / 2 ^ (24 - 8 * k))] := Sm.range_snoc
theorem n2_snoc (boot n k : Nat) : n2 boot n (k + 1) = n2 boot n k ++ [UInt8.ofNat (n / 2 ^ (56 - 8 * k))] := by
  unfold n2
  rw [Sm.range_snoc, List.append_assoc]
end Se

set_option maxRecDepth 100000 in
set_option maxHeartbeats 2000000 in
theorem nonceOf_any (w : World) (boot n : Nat) :
    Calls Tryz.prog 70 #[.int .u32 boot, .int .u64 n] w fun e w' => e = .returned (.agg (Lib.byteCells (Se.nonce boot n)).toArray) ∧ Below w.heap.size w w' := by
  obtain ⟨z0, hz0⟩ : ∃ z, z = Sm.rowB 12 [] := ⟨_, rfl⟩
  have hz1 := (zero_of_info Se.zero12).1
  rw [← hz0] at hz1
  have g1 : (w.alloc (.cells z0 125)).heap[w.heap.size]? = some (.cells (Sm.rowB 12 []) 125 (0, 0)) := by rw [← hz0]; exact heap_alloc_new w _
  have b1 : Below w.heap.size w (w.alloc (.cells z0 125)) := (Below.refl _ w).alloc (Nat.le_refl _) _
  clear hz0
  go_enter Tryz.func70, Tryz.ntmps70
  go_upto_region 1 with (fail)
  generalize w.alloc (.cells z0 125) = W2 at *
  clear hz1
  obtain ⟨N, hN⟩ : ∃ N, N = w.heap.size := ⟨_, rfl⟩
  rw [← hN] at g1 b1 ⊢
  have HN := Lib.hid hN
  clear hN
  go_wp2_with fail
  go_loopw [7] (fun i wr => ∃ k : Nat, k ≤ 4 ∧ i = .int .i64 k ∧ wr.heap[N]? = some (.cells (Sm.rowB 12 (Se.n1 boot k)) 125 (0, 0)) ∧ Below N w wr) (fun i _ => 4 - (intOf i).toNat)
  case atStart => exact ⟨0, by omega, rfl, g1, b1⟩
  case round =>
    clear g1 b1
    obtain ⟨k, hk, rfl, hr1, hbk⟩ := hrel
    have HR1 := Lib.hid hr1
    clear hr1
    by_cases hlt : k < 4
    · have q1 : (k : Int) < 4 := by omega
      have hl := Se.n1_length boot k
      obtain ⟨old, hold⟩ := Sm.rowB_some (n := 12) (l := Se.n1 boot k) k (by omega) (by omega)
      have hold := Sm.cells_of HR1.out k old hold
      have fz := Sm.free_of HR1.out k
      have v1 : IntKind.i64.wrap (8 * (k : Int)) = 8 * (k : Int) := IntWalk.i64_in _ (by omega)
      have v2 : IntKind.i64.wrap (24 - 8 * (k : Int)) = 24 - 8 * (k : Int) := IntWalk.i64_in _ (by omega)
      have p1 : 0 ≤ 24 - 8 * (k : Int) := by omega
      have p2 : 8 * (k : Int) ≤ 24 := by omega
      go_wp2_with fail
      go_roundw
      case rel =>
        refine ⟨k + 1, by omega, by go_num, ?_, hbk.setCell (p := ⟨N, k, none⟩) (Nat.le_refl _) _⟩
        have e := Sm.rowB_set (n := 12) (l := Se.n1 boot k) (by omega) (UInt8.ofNat (boot / 2 ^ (24 - 8 * k)))
        rw [hl] at e
        rw [Se.n1_snoc, ← e, Se.shr_byte]
        exact Sm.heap_set HR1.out k _
      case measure => simp [intOf]; omega
    · obtain rfl : k = 4 := by omega
      have q1 : ¬ ((4 : Nat) : Int) < 4 := by omega
      have hr : wr.heap[N]? = some (.cells (Sm.rowB 12 (Se.n2 boot n 0)) 125 (0, 0)) := by rw [HR1.out]; simp [Se.n2]
      have HR := Lib.hid hr
      clear hr HR1 hlt hk
      go_wp2_with fail
      obtain ⟨w1, hw1⟩ : ∃ w1, w1 = wr := ⟨_, rfl⟩
      rw [← hw1] at HR hbk ⊢
      clear hw1
      go_loopw [19] (fun i wr => ∃ k : Nat, k ≤ 8 ∧ i = .int .i64 k ∧ wr.heap[N]? = some (.cells (Sm.rowB 12 (Se.n2 boot n k)) 125 (0, 0)) ∧ Below N w wr) (fun i _ => 8 - (intOf i).toNat)
      case atStart => exact ⟨0, by omega, rfl, HR.out, hbk⟩
      case round =>
        clear HR hbk
        obtain ⟨k, hk, rfl, hr1, hbk⟩ := hrel
        have HR1 := Lib.hid hr1
        clear hr1
        by_cases hlt : k < 8
        · have q1 : (k : Int) < 8 := by omega
          have hl := Se.n2_length boot n k
          obtain ⟨old, hold⟩ := Sm.rowB_some (n := 12) (l := Se.n2 boot n k) (4 + k) (by omega) (by omega)
          have hold := Sm.cells_of HR1.out (4 + k) old hold
          have fz := Sm.free_of HR1.out (4 + k)
          have v0 : IntKind.i64.wrap (4 + (k : Int)) = 4 + (k : Int) := IntWalk.i64_in _ (by omega)
          have v1 : IntKind.i64.wrap (8 * (k : Int)) = 8 * (k : Int) := IntWalk.i64_in _ (by omega)
          have v2 : IntKind.i64.wrap (56 - 8 * (k : Int)) = 56 - 8 * (k : Int) := IntWalk.i64_in _ (by omega)
          have p0 : (4 + (k : Int)).toNat = 4 + k := by omega
          have p1 : 0 ≤ 56 - 8 * (k : Int) := by omega
          have p2 : 8 * (k : Int) ≤ 56 := by omega
          have p3 : 0 ≤ 4 + (k : Int) := by omega
          have p4 : 4 + (k : Int) < 12 := by omega
          go_wp2_with fail
          go_roundw
          case rel =>
            refine ⟨k + 1, by omega, by go_num, ?_, hbk.setCell (p := ⟨N, 4 + k, none⟩) (Nat.le_refl _) _⟩
            have e := Sm.rowB_set (n := 12) (l := Se.n2 boot n k) (by omega) (UInt8.ofNat (n / 2 ^ (56 - 8 * k)))
            rw [hl] at e
            rw [Se.n2_snoc, ← e, Se.shr_byte]
            exact Sm.heap_set HR1.out (4 + k) _
          case measure => simp [intOf]; omega
        · obtain rfl : k = 8 := by omega
          have q1 : ¬ ((8 : Nat) : Int) < 8 := by omega
          have hr := HR1.out
          rw [Sm.rowB_full (by rw [Se.n2_length])] at hr
          have hsz : (Lib.byteCells (Se.nonce boot n)).toArray.size = 12 := by rw [Sm.bytes_size, Se.nonce_length]
          have hone := Sm.bytes_one (Se.nonce boot n)
          obtain ⟨cs, hcs⟩ : ∃ c, c = (Lib.byteCells (Se.nonce boot n)).toArray := ⟨_, rfl⟩
          have hr2 : wr.heap[N]? = some (.cells cs 125 (0, 0)) := by rw [hcs]; exact hr
          rw [← hcs] at hsz hone
          have HR3 := Lib.hid hr2
          have HC := Lib.hid hcs
          clear hcs hr hr2 HR1
          go_wp2_with (first | (with_reducible refine wpList_load_row rfl 125 (.tmp 4) rfl N rfl 125 cs (0, 0) _ (by exact HR3.out) Tryz.underlying125 rfl (Ae.info12 hsz) ?_) | (with_reducible refine wpList_store_row rfl 125 (.tmp 4) (.tmp 32) rfl N cs rfl rfl 125 _ (by exact HR3.out) (Ae.info12 hsz) rfl hone ?_))
          exact bodyPost_ret (v := .agg cs) (results_cell_row rfl _ _ N 125 _ (0, 0) _ rfl (setRow_heap _ N _ _ _ _ HR3.out) Tryz.underlying125 rfl (Ae.info12 hsz)) rfl ⟨by rw [HC.out], by rw [← HN.out]; exact Sm.below_setRow hbk (Nat.le_refl _) _⟩
end Go.Proofs.YtibpgmcpcelmpaaGreatDoor

/-
  What seal's small functions do: numbered, right, streamed, numbers, tagOf.
-/
namespace Go.Proofs.YtibpgmcpcelmpaaGreatDoor
open Go.RowKit Pk

set_option maxRecDepth 100000 in
set_option maxHeartbeats 400000 in
theorem numbered_any (w : World) (key : Int) :
    Calls Tryz.prog 39 #[.int .i64 key] w fun e w' => e = .returned (.bool (decide (0 ≤ key ∧ key ≤ 1048576))) ∧ w = w' := by
  by_cases h0 : 0 ≤ key
  · by_cases h1 : key ≤ 1048576
    · rw [decide_eq_true ⟨h0, h1⟩]
      go_enter Tryz.func39, Tryz.ntmps39
      go_wp2
      go_ret
      exact ⟨rfl, rfl⟩
    · rw [decide_eq_false (fun h => h1 h.2)]
      go_enter Tryz.func39, Tryz.ntmps39
      go_wp2
      go_ret
      exact ⟨rfl, rfl⟩
  · rw [decide_eq_false (fun h => h0 h.1)]
    go_enter Tryz.func39, Tryz.ntmps39
    go_wp2
    go_ret
    exact ⟨rfl, rfl⟩

namespace Se
/-- An envelope lies in block b. -/
def EnvAt (w : World) (b : Nat) (x : Env) : Prop := w.heap[b]? = some (.cells x.cells.toArray 66 (0, 0))
theorem cells_length (x : Env) (h : x.tag.length = 32) : x.cells.length = 36 := by simp [Env.cells, Lib.byteCells_length, h]
theorem EnvAt.lt {w : World} {b : Nat} {x : Env} (h : EnvAt w b x) : b < w.heap.size := Sm.lt_of h
theorem EnvAt.cell {w : World} {b : Nat} {x : Env} (h : EnvAt w b x) :
    w.cell? ⟨b, 0, none⟩ = some (.int .i64 x.key) ∧ w.cell? ⟨b, 1, none⟩ = some (.int .u32 x.boot) ∧ w.cell? ⟨b, 2, none⟩ = some (.int .u64 x.n) ∧ w.cell? ⟨b, 3, none⟩ = some (.string x.data) :=
  ⟨Sm.cells_of h 0 _ (by simp [Env.cells]), Sm.cells_of h 1 _ (by simp [Env.cells]), Sm.cells_of h 2 _ (by simp [Env.cells]), Sm.cells_of h 3 _ (by simp [Env.cells])⟩
theorem EnvAt.tag {w : World} {b : Nat} {x : Env} (h : EnvAt w b x) (i : Nat) (hi : i < x.tag.length) : w.cell? ⟨b, 4 + i, none⟩ = some (.int .u8 ((x.tag.getD i 0).toNat : Int)) := by
  refine Sm.cells_of h (4 + i) _ ?_
  rw [List.getElem?_toArray]
  show (([.int .i64 x.key, .int .u32 x.boot, .int .u64 x.n, .string x.data] : List Value) ++ Lib.byteCells x.tag)[4 + i]? = _
  rw [List.getElem?_append_right (by simp), List.length_cons, List.length_cons, List.length_cons, List.length_singleton, show 4 + i - 4 = i by omega]
  exact Sm.byteCells_get hi
theorem EnvAt.keep {w w' : World} {b B : Nat} {x : Env} (h : EnvAt w b x) (hb : b < B) (k : Below B w w') : EnvAt w' b x := (k.block b hb).trans h
theorem env_new (w : World) (x : Env) : EnvAt (w.alloc (.cells x.cells.toArray 66)) w.heap.size x := heap_alloc_new w _
theorem below_new (w : World) (o : Obj) : Below w.heap.size w (w.alloc o) := (Below.refl _ w).alloc (Nat.le_refl _) _
end Se

set_option maxRecDepth 100000 in
set_option maxHeartbeats 400000 in
theorem right_any (w : World) (x : Se.Env) (ok : x.Ok) :
    Calls Tryz.prog 46 #[.agg x.cells.toArray] w fun e w' => e = .returned (.bool (decide x.Right)) ∧ Below w.heap.size w w' := by
  have hE := Se.env_new w x
  have hb := Se.below_new w (.cells x.cells.toArray 66)
  obtain ⟨cs, hcs⟩ : ∃ c, c = x.cells.toArray := ⟨_, rfl⟩
  rw [← hcs] at hE hb ⊢
  clear hcs
  obtain ⟨h0, -, -, h3⟩ := hE.cell
  clear hE
  have hds := ok.data
  have NU := Lib.hid (fun wx => numbered_any wx x.key)
  by_cases hk : 0 ≤ x.key ∧ x.key ≤ 1048576
  · rw [decide_eq_true hk] at NU
    by_cases hd : x.data.size ≤ 8192
    · rw [decide_eq_true (show x.Right from ⟨hk, hd⟩)]
      have hd2 : (x.data.size : Int) ≤ 8192 := by omega
      clear hk hd
      go_enter Tryz.func46, Tryz.ntmps46
      go_upto_region 1 with (fail)
      generalize w.alloc (.cells cs 66) = W1 at *
      go_wp2_with fail
      refine (NU.out _).mono ?_
      rintro e w' ⟨rfl, rfl⟩
      go_wp2
      go_ret
      exact ⟨rfl, hb⟩
    · rw [decide_eq_false (show ¬ x.Right from fun h => hd h.2)]
      have hd2 : ¬ (x.data.size : Int) ≤ 8192 := by omega
      clear hk hd
      go_enter Tryz.func46, Tryz.ntmps46
      go_upto_region 1 with (fail)
      generalize w.alloc (.cells cs 66) = W1 at *
      go_wp2_with fail
      refine (NU.out _).mono ?_
      rintro e w' ⟨rfl, rfl⟩
      go_wp2
      go_ret
      exact ⟨by simp; omega, hb⟩
  · rw [decide_eq_false hk] at NU
    rw [decide_eq_false (show ¬ x.Right from fun h => hk h.1)]
    clear hk
    go_enter Tryz.func46, Tryz.ntmps46
    go_upto_region 1 with (fail)
    generalize w.alloc (.cells cs 66) = W1 at *
    go_wp2_with fail
    refine (NU.out _).mono ?_
    rintro e w' ⟨rfl, rfl⟩
    go_wp2
    go_ret
    exact ⟨rfl, hb⟩
end Go.Proofs.YtibpgmcpcelmpaaGreatDoor

/-
  What seal's streamed and numbers do.
-/
namespace Go.Proofs.YtibpgmcpcelmpaaGreatDoor
open Go.RowKit Pk
namespace Se
theorem cell_lt {w : World} {g o : Nat} {v : Value} (h : w.cell? ⟨g, o, none⟩ = some v) : g < w.heap.size := by
  rcases Nat.lt_or_ge g w.heap.size with h1 | h1
  · exact h1
  · simp [World.cell?, Array.getElem?_eq_none h1] at h
theorem two_keep {w w' : World} {b i j B : Nat} {u v : Value} (hb : b < B) (k : Below B w w') (h : w.cell? ⟨b, i, none⟩ = some u ∧ w.cell? ⟨b, j, none⟩ = some v) : w'.cell? ⟨b, i, none⟩ = some u ∧ w'.cell? ⟨b, j, none⟩ = some v :=
  ⟨(k.cell (p := ⟨b, i, none⟩) hb).trans h.1, (k.cell (p := ⟨b, j, none⟩) hb).trans h.2⟩
end Se

set_option maxRecDepth 100000 in
set_option maxHeartbeats 1000000 in
theorem streamed_any {w : World} (hH : Sm.HAt w) (hK : Sm.KAt w) (hsz : 1 < w.heap.size) (k : List UInt8) (hk : k.length = 32) (x : Se.Env) (t : ByteArray) (ht : t.size ≤ 1099511627776) :
    Calls Tryz.prog 40 #[.agg (Lib.byteCells k).toArray, .agg x.cells.toArray, .string t] w fun e w' => e = .returned (.string ⟨(Se.strm k x.boot x.n t.data.toList).toArray⟩) ∧ Below w.heap.size w w' := by
  obtain ⟨ckl, hck⟩ : ∃ c, c = Lib.byteCells k := ⟨_, rfl⟩
  have hckl : ckl.length = 32 := by rw [hck, Lib.byteCells_length, hk]
  obtain ⟨cs, hcs⟩ : ∃ c, c = x.cells.toArray := ⟨_, rfl⟩
  have g1 := heap_alloc_new w (.cells ckl.toArray 74)
  have b1 := Se.below_new w (.cells ckl.toArray 74)
  have hE := Se.env_new (w.alloc (.cells ckl.toArray 74)) x
  have b2 : Below w.heap.size w ((w.alloc (.cells ckl.toArray 74)).alloc (.cells x.cells.toArray 66)) := b1.alloc b1.size _
  have g2 : ((w.alloc (.cells ckl.toArray 74)).alloc (.cells x.cells.toArray 66)).heap[w.heap.size]? = some (.cells ckl.toArray 74 (0, 0)) := by
    rw [Below.heap_alloc _ _ _ (by simp)]; exact g1
  have s2 : ((w.alloc (.cells ckl.toArray 74)).alloc (.cells x.cells.toArray 66)).heap.size = w.heap.size + 2 := by simp
  rw [show (w.alloc (.cells ckl.toArray 74)).heap.size = w.heap.size + 1 by simp] at hE
  rw [← hcs] at hE b2 g2 s2 ⊢
  rw [← hck]
  have KEY : Hid (∀ wx : World, Sm.HAt wx → Sm.KAt wx → 1 < wx.heap.size → Calls Tryz.prog 69 #[.agg ckl.toArray, .string ⟨#[101, 110, 99]⟩] wx fun e w' => e = .returned (.agg (Lib.byteCells (Sm.tag k Se.encL)).toArray) ∧ Below wx.heap.size wx w') := fun wx h1 h2 h3 => by
    rw [hck]; exact key_any k hk ⟨#[101, 110, 99]⟩ h1 h2 h3 (by decide)
  have STR : Hid (∀ wx : World, Calls Tryz.prog 68 #[.agg (Lib.byteCells (Sm.tag k Se.encL)).toArray, .agg (Lib.byteCells (Se.nonce x.boot x.n)).toArray, .string t] wx fun e w' => e = .returned (.string ⟨(Se.strm k x.boot x.n t.data.toList).toArray⟩) ∧ Below wx.heap.size wx w') := fun wx =>
    stream_any wx _ _ (Sm.tag_length _ _) (Se.nonce_length _ _) t ht
  have HH := Lib.hid hH
  have HK := Lib.hid hK
  obtain ⟨c1, hc1⟩ : ∃ c, c = (Lib.byteCells (Sm.tag k Se.encL)).toArray := ⟨_, rfl⟩
  obtain ⟨c2, hc2⟩ : ∃ c, c = (Lib.byteCells (Se.nonce x.boot x.n)).toArray := ⟨_, rfl⟩
  rw [← hc1] at KEY STR
  rw [← hc2] at STR
  have NON : Hid (∀ wx : World, Calls Tryz.prog 70 #[.int .u32 x.boot, .int .u64 x.n] wx fun e w' => e = .returned (.agg c2) ∧ Below wx.heap.size wx w') := fun wx => by
    rw [hc2]; exact nonceOf_any wx x.boot x.n
  obtain ⟨-, e1, e2, -⟩ := hE.cell
  clear hE hcs hH hK hc1 hc2 hck g1 b1 ht hk
  go_enter Tryz.func40, Tryz.ntmps40
  go_upto_region 1 with (fail)
  generalize (w.alloc (.cells ckl.toArray 74)).alloc (.cells cs 66) = W2 at *
  have G2 : Hid (W2.drew.heap[w.heap.size]? = some (.cells ckl.toArray 74 (0, 0))) := g2
  have B2 : Hid (Below w.heap.size w W2.drew) := b2.drew
  have E2 : Hid (W2.drew.cell? ⟨w.heap.size + 1, 1, none⟩ = some (.int .u32 x.boot) ∧ W2.drew.cell? ⟨w.heap.size + 1, 2, none⟩ = some (.int .u64 x.n)) := ⟨e1, e2⟩
  clear g2 b2 e1 e2
  have hund : Tryz.prog.underlying 74 = some (.array 32 5) := Tryz.underlying74
  have hicl : (Tryz.prog.info? 74).map (·.size) = some ckl.length := by rw [hckl]; kernel_rfl
  go_region_held3 (fun w' => w'.rangeAt w.heap.size 0 ckl ∧ w'.cell? ⟨w.heap.size + 1, 1, none⟩ = some (.int .u32 x.boot) ∧ w'.cell? ⟨w.heap.size + 1, 2, none⟩ = some (.int .u64 x.n))
    (first | (with_reducible exact ⟨Sm.range_row G2.out, E2.out⟩) | (with_reducible exact ⟨Sm.range_row G3.out, E3.out⟩) | (with_reducible exact ⟨Sm.range_row G4.out, E4.out⟩) | (with_reducible exact ⟨Sm.range_row G5.out, E5.out⟩))
    ((first
      | (go_at_call 69; refine (KEY.out _ (HH.out.low B2.out (by omega)) (HK.out.low B2.out hsz) (Nat.lt_of_lt_of_le hsz B2.out.size)).mono ?_; rintro e w3 ⟨rfl, k3⟩; have G3 := Lib.hid ((k3.block w.heap.size (by show w.heap.size < W2.heap.size; omega)).trans G2.out); have E3 := Lib.hid (Se.two_keep (by show w.heap.size + 1 < W2.heap.size; omega) k3 E2.out); have B3 := Lib.hid (Sm.low_low B2.out (Nat.le_refl _) k3); have s3 := k3.size; clear k3)
      | (go_at_call 70; refine (NON.out _).mono ?_; rintro e w4 ⟨rfl, k4⟩; have G4 := Lib.hid ((k4.block w.heap.size (Sm.lt_of G3.out)).trans G3.out); have E4 := Lib.hid (Se.two_keep (Se.cell_lt E3.out.1) k4 E3.out); have B4 := Lib.hid (Sm.low_low B3.out (Nat.le_refl _) k4); clear k4)
      | (go_at_call 68; refine (STR.out _).mono ?_; rintro e w5 ⟨rfl, k5⟩; have G5 := Lib.hid ((k5.block w.heap.size (Sm.lt_of G4.out)).trans G4.out); have E5 := Lib.hid (Se.two_keep (Se.cell_lt E4.out.1) k5 E4.out); have B5 := Lib.hid (Sm.low_low B4.out (Nat.le_refl _) k5); clear k5)))
  go_wp2
  go_ret
  exact ⟨rfl, B5.out⟩

set_option maxRecDepth 100000 in
set_option maxHeartbeats 1000000 in
theorem numbers_any {w : World} (x : Se.Env) (ok : x.Ok) (hr : 0 ≤ x.key) {B o : Nat} {bs : List UInt8} (hout : outAt w B o bs) (hB : B ≤ w.heap.size) (hroom : bs.length + 30 ≤ 140737488355328) :
    Calls Tryz.prog 47 #[.pointer (some ⟨o, 0, none⟩), .agg x.cells.toArray] w fun e w' => e = .returned (.tuple #[]) ∧ outAt w' B o (bs ++ Se.head x) ∧ Below B w w' ∧ Fr w w' := by
  have hE := Se.env_new w x
  have hb := Se.below_new w (.cells x.cells.toArray 66)
  obtain ⟨cs, hcs⟩ : ∃ c, c = x.cells.toArray := ⟨_, rfl⟩
  rw [← hcs] at hE hb ⊢
  obtain ⟨h0, h1, h2, -⟩ := hE.cell
  obtain ⟨kn, hkn⟩ : ∃ kn : Nat, x.key = kn := ⟨x.key.toNat, (Int.toNat_of_nonneg hr).symm⟩
  have hke : x.key.toNat = kn := by omega
  have hkl := ok.key
  have hbl := ok.boot
  have hnl := ok.n
  have HD : Hid (Se.head x = enc kn ++ enc x.boot ++ enc x.n) := by show _ = _; rw [Se.head, hke]
  rw [HD.out]
  rw [hkn] at h0 hkl
  have q0 : (kn : Int) ≤ 9223372036854775807 := hkl.2
  have q1 : (x.boot : Int) < 4294967296 := by omega
  have q2 : (x.n : Int) < 18446744073709551616 := by omega
  have ho1 := hout.kept hb
  have hf : Fr w (w.alloc (.cells cs 66)) := (Fr.refl w).alloc _
  have l0 := enc_len (n := kn) (by omega)
  have l1 := enc_len (n := x.boot) (by omega)
  have HE : Hid ((w.alloc (.cells cs 66)).heap[w.heap.size]? = some (.cells cs 66 (0, 0))) := heap_alloc_new w _
  have CELL : Hid (∀ wx : World, wx.heap[w.heap.size]? = some (.cells cs 66 (0, 0)) → wx.cell? ⟨w.heap.size, 1, none⟩ = some (.int .u32 x.boot) ∧ wx.cell? ⟨w.heap.size, 2, none⟩ = some (.int .u64 x.n)) := fun wx h => by
    rw [hcs] at h
    exact ⟨(Se.EnvAt.cell h).2.1, (Se.EnvAt.cell h).2.2.1⟩
  clear hE hcs hke HD hkn hkl hr hout h1 h2
  go_enter Tryz.func47, Tryz.ntmps47
  go_upto_region 1 with (fail)
  generalize w.alloc (.cells cs 66) = W1 at *
  have N0 := oNum_any_fr kn (by omega) ho1 (Nat.le_trans hB hb.size) (by omega)
  have s1 := Nat.le_trans hB hb.size
  clear ho1
  go_wp2_with fail
  refine N0.mono ?_
  rintro e w2 ⟨rfl, ho2, hb2, hf2⟩
  have e2 := hf2 _ _ _ _ HE.out (by decide) (by decide) (by decide)
  have s2 := Nat.le_trans s1 hb2.size
  have c1 := (CELL.out _ e2).1
  have N1 := oNum_any_fr x.boot (by omega) ho2 s2 (by rw [List.length_append]; omega)
  have HE2 := Lib.hid e2
  clear N0 ho2 e2 h0 HE
  go_wp2_with fail
  refine N1.mono ?_
  rintro e w3 ⟨rfl, ho3, hb3, hf3⟩
  have e3 := hf3 _ _ _ _ HE2.out (by decide) (by decide) (by decide)
  have c2 := (CELL.out _ e3).2
  have N2 := oNum_any_fr x.n (by omega) ho3 (Nat.le_trans s2 hb3.size) (by rw [List.length_append, List.length_append]; omega)
  clear N1 ho3 e3 HE2 c1
  go_wp2_with fail
  refine N2.mono ?_
  rintro e w4 ⟨rfl, ho4, hb4, hf4⟩
  go_wp2
  go_end0
  refine ⟨rfl, ?_, (hb.mono hB).trans (hb2.trans (hb3.trans hb4)), hf.trans (hf2.trans (hf3.trans hf4))⟩
  simpa [List.append_assoc] using ho4
end Go.Proofs.YtibpgmcpcelmpaaGreatDoor

/-
  What seal's tagOf does.
-/
namespace Go.Proofs.YtibpgmcpcelmpaaGreatDoor
open Go.RowKit Pk

set_option maxRecDepth 100000 in
set_option maxHeartbeats 1000000 in
theorem tagOf_any {w : World} (hH : Sm.HAt w) (hK : Sm.KAt w) (hsz : 1 < w.heap.size) (k : List UInt8) (hk : k.length = 32) (x : Se.Env) (ok : x.Ok) (hr : 0 ≤ x.key) (about : ByteArray) (ha : about.size ≤ 1099511627776) (hd : x.data.size ≤ 1099511627776) :
    Calls Tryz.prog 41 #[.agg (Lib.byteCells k).toArray, .agg x.cells.toArray, .string about] w fun e w' => e = .returned (.agg (Lib.byteCells (Se.tagOf k x about.data.toList)).toArray) ∧ Below w.heap.size w w' := by
  obtain ⟨ckl, hck⟩ : ∃ c, c = Lib.byteCells k := ⟨_, rfl⟩
  have hckl : ckl.length = 32 := by rw [hck, Lib.byteCells_length, hk]
  obtain ⟨cs, hcs⟩ : ∃ c, c = x.cells := ⟨_, rfl⟩
  have hcsl : cs.toArray.size = 36 := by rw [hcs, List.size_toArray]; exact Se.cells_length x ok.tag
  have HH := Lib.hid hH
  have HK := Lib.hid hK
  have HCK := Lib.hid hck
  have HCS := Lib.hid hcs
  obtain ⟨N, hN⟩ : ∃ N, N = w.heap.size := ⟨_, rfl⟩
  obtain ⟨W3, hW3⟩ : ∃ W, W = ((w.alloc (.cells ckl.toArray 74)).alloc (.cells cs.toArray 66)).alloc (.cells (Sm.rowB 32 []) 64) := ⟨_, rfl⟩
  have s3 : W3.heap.size = N + 3 := by rw [hW3, hN]; simp
  have r0 : W3.heap[N]? = some (.cells ckl.toArray 74 (0, 0)) := by
    rw [hW3, hN, Below.heap_alloc _ _ _ (by simp; omega), Below.heap_alloc _ _ _ (by simp)]; exact heap_alloc_new w _
  have r1 : W3.heap[N + 1]? = some (.cells cs.toArray 66 (0, 0)) := by
    rw [hW3, hN, Below.heap_alloc _ _ _ (by simp)]
    simpa using heap_alloc_new (w.alloc (.cells ckl.toArray 74)) (.cells cs.toArray 66)
  have r2 : W3.heap[N + 2]? = some (.cells (Sm.rowB 32 []) 64 (0, 0)) := by
    rw [hW3, hN]
    simpa using heap_alloc_new ((w.alloc (.cells ckl.toArray 74)).alloc (.cells cs.toArray 66)) (.cells (Sm.rowB 32 []) 64)
  have b3 : Below N w W3 := by
    rw [hW3, hN]
    exact (((Below.refl _ w).alloc (Nat.le_refl _) _).alloc (by simp) _).alloc (by simp; omega) _
  rw [← hck, ← hcs, ← hN]
  have HN := Lib.hid hN
  have HW3 := Lib.hid hW3
  clear hW3 hN hck hcs hH hK
  have htg0 : Se.tagOf k x about.data.toList = Sm.tag (Sm.tag k Se.macL) (Se.tagged x about.data.toList) := rfl
  rw [htg0]
  clear htg0
  have hml := Sm.tag_length k Se.macL
  obtain ⟨km, hkm⟩ : ∃ c, c = Sm.tag k Se.macL := ⟨_, rfl⟩
  obtain ⟨tg, htg⟩ : ∃ t, t = Se.tagged x about.data.toList := ⟨_, rfl⟩
  rw [← htg, ← hkm]
  rw [← hkm] at hml
  have HTG := Lib.hid htg
  have HKM := Lib.hid hkm
  clear htg hkm
  go_enter Tryz.func41, Tryz.ntmps41
  go_upto_region 1 with (fail)
  change Code.wp _ _ _ _ (((w.alloc (.cells ckl.toArray 74)).alloc (.cells cs.toArray 66)).alloc (.cells (Sm.rowB 32 []) 64))
  rw [← HW3.out, ← HN.out]
  clear HW3
  have ho4 : outAt (W3.alloc (.cells #[.pointer none, .int .i64 0] 107)) N (N + 3) [] := ⟨by omega, .inl ⟨by rw [← s3]; exact heap_alloc_new W3 _, rfl⟩⟩
  have b4 : Below N w (W3.alloc (.cells #[.pointer none, .int .i64 0] 107)) := b3.alloc (by omega) _
  have f4 : Fr W3 (W3.alloc (.cells #[.pointer none, .int .i64 0] 107)) := (Fr.refl W3).alloc _
  have s4 : (W3.alloc (.cells #[.pointer none, .int .i64 0] 107)).heap.size = N + 4 := by simp; omega
  go_upto_region 2 with (fail)
  generalize W3.alloc (.cells #[.pointer none, .int .i64 0] 107) = W4 at *
  have R0 := Lib.hid (f4 _ _ _ _ r0 (by decide) (by decide) (by decide))
  have R1 := Lib.hid (f4 _ _ _ _ r1 (by decide) (by decide) (by decide))
  have R2 := Lib.hid (f4 _ _ _ _ r2 (by decide) (by decide) (by decide))
  have NU : Hid (∀ (wx : World) (bs : List UInt8), outAt wx N (N + 3) bs → N ≤ wx.heap.size → bs.length + 30 ≤ 140737488355328 → Calls Tryz.prog 47 #[.pointer (some ⟨N + 3, 0, none⟩), .agg cs.toArray] wx fun e w' => e = .returned (.tuple #[]) ∧ outAt w' N (N + 3) (bs ++ Se.head x) ∧ Below N wx w' ∧ Fr wx w') := fun wx bs h1 h2 h3 => by
    rw [HCS.out]; exact numbers_any x ok hr h1 h2 h3
  have CELL : Hid (∀ wx : World, wx.heap[N + 1]? = some (.cells cs.toArray 66 (0, 0)) → wx.cell? ⟨N + 1, 3, none⟩ = some (.string x.data)) := fun wx h => by
    rw [HCS.out] at h
    exact (Se.EnvAt.cell h).2.2.2
  have lh : (Se.head x).length ≤ 30 := by
    have h1 := enc_len (n := x.key.toNat) (by have := ok.key; omega)
    have h2 := enc_len (n := x.boot) (by have := ok.boot; omega)
    have h3 := enc_len (n := x.n) (by have := ok.n; omega)
    simp only [Se.head, List.length_append]
    omega
  have la := enc_len (n := about.size) (by omega)
  have ld := enc_len (n := x.data.size) (by omega)
  have hiE : (Tryz.prog.info? 66).map (·.size) = some cs.toArray.size := by rw [hcsl]; kernel_rfl
  clear r0 r1 r2 f4 b3 s3
  go_wp2_with (with_reducible refine wpList_load_row rfl 66 (.tmp 4) rfl (N + 1) rfl 66 cs.toArray (0, 0) _ (by exact R1.out) Tryz.underlying66 rfl hiE ?_)
  refine (NU.out _ [] ho4 (by omega) (by simp)).mono ?_
  rintro e w5 ⟨rfl, ho5, b5, f5⟩
  have P0 := Lib.hid (f5 _ _ _ _ R0.out (by decide) (by decide) (by decide))
  have P1 := Lib.hid (f5 _ _ _ _ R1.out (by decide) (by decide) (by decide))
  have P2 := Lib.hid (f5 _ _ _ _ R2.out (by decide) (by decide) (by decide))
  have s5 := b5.size
  have B5 := Lib.hid (b4.trans b5)
  rw [List.nil_append] at ho5
  clear R0 R1 R2 b4 b5 f5 ho4 NU
  have T5 := oText_any_fr about ho5 (by omega) (by omega)
  clear ho5
  go_wp2_with fail
  refine T5.mono ?_
  rintro e w6 ⟨rfl, ho6, b6, f6⟩
  have R0 := Lib.hid (f6 _ _ _ _ P0.out (by decide) (by decide) (by decide))
  have R1 := Lib.hid (f6 _ _ _ _ P1.out (by decide) (by decide) (by decide))
  have R2 := Lib.hid (f6 _ _ _ _ P2.out (by decide) (by decide) (by decide))
  have s6 := b6.size
  have B6 := Lib.hid (B5.out.trans b6)
  have c6 := CELL.out _ R1.out
  have hal : about.data.toList.length = about.size := by rw [Array.length_toList]; rfl
  have T6 := oText_any_fr x.data ho6 (by omega) (by simp only [List.length_append]; omega)
  clear P0 P1 P2 b6 f6 ho6 T5 B5
  go_wp2_with fail
  refine T6.mono ?_
  rintro e w7 ⟨rfl, ho7, b7, f7⟩
  have P0 := Lib.hid (f7 _ _ _ _ R0.out (by decide) (by decide) (by decide))
  have P2 := Lib.hid (f7 _ _ _ _ R2.out (by decide) (by decide) (by decide))
  have s7 := b7.size
  have B7 := Lib.hid (B6.out.trans b7)
  have htx : Se.head x ++ (enc about.size ++ about.data.toList) ++ (enc x.data.size ++ x.data.data.toList) = Se.tagged x about.data.toList := by
    unfold Se.tagged Se.txt
    rw [hal, show x.data.data.toList.length = x.data.size by rw [Array.length_toList]; rfl]
  rw [htx] at ho7
  have hlt : (Se.tagged x about.data.toList).length ≤ 2199023256000 := by
    rw [← htx]
    have hdl : x.data.data.toList.length = x.data.size := by rw [Array.length_toList]; rfl
    simp only [List.length_append]
    omega
  rw [← HTG.out] at ho7 hlt
  clear R0 R1 R2 b7 f7 T6 B6 htx HTG c6 CELL lh la ld hal hcsl hiE HCS
  have HO := Lib.hid ho7
  clear ho7
  have KEY : Hid (∀ wx : World, Sm.HAt wx → Sm.KAt wx → 1 < wx.heap.size → Calls Tryz.prog 69 #[.agg ckl.toArray, .string ⟨#[109, 97, 99]⟩] wx fun e w' => e = .returned (.agg (Lib.byteCells (Sm.tag k Se.macL)).toArray) ∧ Below wx.heap.size wx w') := fun wx h1 h2 h3 => by
    rw [HCK.out]; exact key_any k hk ⟨#[109, 97, 99]⟩ h1 h2 h3 (by decide)
  rw [← HKM.out] at KEY
  have hkml : (Lib.byteCells km).length = 32 := by rw [Lib.byteCells_length, hml]
  have hone := Sm.bytes_one km
  have hicl : (Tryz.prog.info? 74).map (·.size) = some ckl.toArray.size := by rw [List.size_toArray, hckl]; kernel_rfl
  have hw7 : N ≤ w7.heap.size := by omega
  have hN1 : 1 < N := by rw [HN.out]; exact hsz
  go_wp2_with (with_reducible refine wpList_load_row rfl 74 (.tmp 3) rfl N rfl 74 ckl.toArray (0, 0) _ (by exact P0.out) Tryz.underlying74 rfl hicl ?_)
  refine (KEY.out _ (HH.out.low B7.out (by omega)) (HK.out.low B7.out hN1) (Nat.lt_of_lt_of_le hN1 hw7)).mono ?_
  rintro e w8 ⟨rfl, k8⟩
  have B8 := Lib.hid (B7.out.trans (k8.mono hw7))
  have P8 := Lib.hid ((k8.block (N + 2) (Sm.lt_of P2.out)).trans P2.out)
  have hout8 := HO.out.kept k8
  have s8 := k8.size
  have hkm2 : (Lib.byteCells km).toArray.size = 32 := by rw [Sm.bytes_size, hml]
  have hst : ∀ (c : Array Value), c.size = 32 → (storeCells ⟨w8.heap.size, 0, none⟩ (Lib.byteCells km).toArray.toList).run Tryz.prog (w8.alloc (.cells c 74)) = .ok () (w8.alloc (.cells (Lib.byteCells km).toArray 74)) := fun c hc =>
    run_storeCells_new (P := Tryz.prog) w8 74 c _ (Sm.infoKey hkm2) (by rw [hkm2]; exact hc) hone
  have p9 := heap_alloc_new w8 (.cells (Lib.byteCells km).toArray 74)
  have b9 : Below N w (w8.alloc (.cells (Lib.byteCells km).toArray 74)) := B8.out.alloc (by omega) _
  have q9 : (w8.alloc (.cells (Lib.byteCells km).toArray 74)).heap[N + 2]? = some (.cells (Sm.rowB 32 []) 64 (0, 0)) := by
    rw [Below.heap_alloc _ _ _ (Sm.lt_of P8.out)]; exact P8.out
  have s9 : (w8.alloc (.cells (Lib.byteCells km).toArray 74)).heap.size = w8.heap.size + 1 := by simp
  have o9 : outAt (w8.alloc (.cells (Lib.byteCells km).toArray 74)) N (N + 3) tg := hout8.kept (Se.below_new w8 _)
  have hl8 : N + 2 < w8.heap.size := Sm.lt_of P8.out
  obtain ⟨ci, hci⟩ : ∃ c, c = Lib.byteCells km := ⟨_, rfl⟩
  rw [← hci] at hst p9 b9 q9 s9 o9 hkm2 hkml ⊢
  have HCI := Lib.hid hci
  clear hci hone P0 P2 B7 HO KEY k8 hout8 P8 B8
  go_upto_region 6 with (fail)
  clear hst
  generalize w8.alloc (.cells ci.toArray 74) = W9 at *
  obtain ⟨M, hM⟩ : ∃ M, M = w8.heap.size := ⟨_, rfl⟩
  rw [← hM] at p9 s9 hl8 ⊢
  have CONV : Hid (∀ wx : World, wx.heap[M]? = some (.cells ci.toArray 74 (0, 0)) → (convert 85 9 (.slice (some ⟨M, 0, none⟩) 32 32)).run Tryz.prog wx = .ok (.string ⟨km.toArray⟩) wx) := by
    intro wx h
    rw [HCI.out] at h
    exact Sm.conv_row h hml
  have ST : Hid (∀ wx : World, outAt wx N (N + 3) tg → Calls Tryz.prog 50 #[.pointer (some ⟨N + 3, 0, none⟩)] wx fun e w' => e = .returned (.string ⟨tg.toArray⟩) ∧ ∃ n, w' = wx.drewN n) := fun wx h => oString_any h (by omega)
  obtain ⟨co, hco⟩ : ∃ c, c = Lib.byteCells (Sm.tag km tg) := ⟨_, rfl⟩
  have TAG : Hid (∀ wx : World, Sm.HAt wx → Sm.KAt wx → 1 < wx.heap.size → Calls Tryz.prog 71 #[.string ⟨km.toArray⟩, .string ⟨tg.toArray⟩] wx fun e w' => e = .returned (.agg co.toArray) ∧ Below wx.heap.size wx w') := by
    intro wx h1 h2 h3
    rw [hco]
    exact tag_any ⟨km.toArray⟩ ⟨tg.toArray⟩ h1 h2 h3 (by show km.toArray.size ≤ _; rw [List.size_toArray]; omega) (by show tg.toArray.size ≤ _; rw [List.size_toArray]; omega)
  have hcol : co.length = 32 := by rw [hco, Lib.byteCells_length, Sm.tag_length]
  have hoc : ∀ v ∈ co, v.oneCell' = true := by rw [hco]; exact Lib.byteCells_one _
  have HRES : Hid ((Value.agg co.toArray) = .agg (Lib.byteCells (Sm.tag km tg)).toArray) := by
    show _ = _
    rw [hco]
  have hund : Tryz.prog.underlying 74 = some (.array 32 5) := Tryz.underlying74
  have hioc : (Tryz.prog.info? 64).map (·.size) = some co.length := by rw [hcol]; kernel_rfl
  have hz32 : (Sm.rowB 32 []).size = 32 := Sm.rowB_size (by simp)
  have hzl : (Sm.rowB 32 []).size = co.length := by rw [hz32, hcol]
  have P9 : Hid (W9.drew.heap[M]? = some (.cells ci.toArray 74 (0, 0))) := p9
  have Q9 : Hid (W9.drew.heap[N + 2]? = some (.cells (Sm.rowB 32 []) 64 (0, 0))) := q9
  have B9 : Hid (Below N w W9.drew) := b9.drew
  have O9 : Hid (outAt W9.drew N (N + 3) tg) := o9
  have HNE : Hid (M ≠ N + 2) := by show M ≠ N + 2; omega
  have HNW : Hid (N ≤ W9.drew.heap.size) := by show N ≤ W9.heap.size; omega
  have HZ32 := Lib.hid hz32
  have HZL := Lib.hid hzl
  clear p9 q9 b9 o9 hz32 hzl hco hM
  go_region_held3 (fun w' => (convert 85 9 (.slice (some ⟨M, 0, none⟩) 32 32)).run Tryz.prog w' = .ok (.string ⟨km.toArray⟩) w' ∧ w'.there (N + 1 + 1) 0 32)
    (first | (with_reducible exact ⟨CONV.out _ P9.out, Sm.there_row Q9.out HZ32.out⟩) | (with_reducible exact ⟨CONV.out _ P10.out, Sm.there_row Q10.out HZ32.out⟩) | (with_reducible exact ⟨CONV.out _ P11.out, Sm.there_row Q11.out HZ32.out⟩) | exact ⟨CONV.out _ (Sm.other_setCells HNE.out P11.out), World.there_setCells (Sm.there_row Q11.out HZ32.out) _ _ _⟩)
    ((first
      | (go_at_call 50; refine (ST.out _ O9.out).mono ?_; rintro e w10 ⟨rfl, n10, hw10⟩; have P10 : Hid (w10.heap[M]? = some (.cells ci.toArray 74 (0, 0))) := (by rw [hw10]; exact P9.out); have Q10 : Hid (w10.heap[N + 2]? = some (.cells (Sm.rowB 32 []) 64 (0, 0))) := (by rw [hw10]; exact Q9.out); have B10 : Hid (Below N w w10) := (by rw [hw10]; exact Sm.below_drewN B9.out n10); have HN10 : Hid (N ≤ w10.heap.size) := (by rw [hw10]; exact HNW.out); clear hw10)
      | (go_at_call 71; refine (TAG.out _ (HH.out.low B10.out (by have := HN.out; omega)) (HK.out.low B10.out hN1) (Nat.lt_of_lt_of_le hN1 HN10.out)).mono ?_; rintro e w11 ⟨rfl, k11⟩; have P11 := Lib.hid ((k11.block M (Sm.lt_of P10.out)).trans P10.out); have Q11 := Lib.hid ((k11.block (N + 2) (Sm.lt_of Q10.out)).trans Q10.out); have B11 := Lib.hid (B10.out.trans (k11.mono HN10.out)); clear k11)))
  go_wp2
  exact bodyPost_ret (v := .agg co.toArray) (results_cell_row rfl _ _ (N + 2) 64 _ (0, 0) _ rfl (Sm.heap_setAll Q11.out HZL.out) Tryz.underlying64 rfl (by rw [List.size_toArray]; exact hioc)) rfl ⟨by rw [HRES.out], Sm.below_setCells (by omega) _ _ B11.out⟩
end Go.Proofs.YtibpgmcpcelmpaaGreatDoor

/-
  What seal's Close does.
-/
namespace Go.Proofs.YtibpgmcpcelmpaaGreatDoor
open Go.RowKit Pk
namespace Se
theorem results_row_tmp {P : Program} {fn : Func} {p u : Tmp} {ty : TypeId} (h : fn.results = #[.cell p ty, .tmp u]) (tmps : Array Value) (w : World) (g : Nat) (t : TypeId) (cs : Array Value) (fr : Nat × Nat) (d : TypeDesc) (v : Value)
    (hp : tmps.getD p undef = .pointer (some ⟨g, 0, none⟩)) (hg : w.heap[g]? = some (.cells cs t fr))
    (hu : P.underlying ty = some d) (hd : (match d with | .struct _ | .array _ _ => true | _ => false) = true) (hi : (P.info? ty).map (·.size) = some cs.size) (hv : tmps.getD u undef = v) :
    (results fn tmps).run P w = .ok (.tuple #[.agg cs, v]) w := by
  have hp' : tmps[p]?.getD undef = .pointer (some ⟨g, 0, none⟩) := by simpa using hp
  have hv' : tmps[u]?.getD undef = v := by simpa using hv
  simp [results, h, hp', hv', asAddr, run_loadVar_row w g t ty cs fr d hg hu hd hi]
/-- What Close answers. -/
def close (k : List UInt8) (key : Int) (boot n : Nat) (about t : List UInt8) : Env × Nat :=
  if 0 ≤ key ∧ key ≤ 1048576 then (if t.length ≤ 8192 then (sealed k key boot n about t, 0) else (zero, 3)) else (zero, 1)
theorem zeroEnv : (Tryz.prog.info? 66).map (fun i => (i.zero, i.size)) = some (some (.agg zero.cells.toArray), 36) := by kernel_rfl
theorem infoEnv {c : Array Value} (h : c.size = 36) : (Tryz.prog.info? 66).map (·.size) = some c.size := by rw [h]; kernel_rfl
theorem cells_one (x : Env) : x.cells.toArray.all (·.oneCell') = true := by
  rw [Array.all_eq_true_iff_forall_mem]
  intro v hv
  rw [List.mem_toArray] at hv
  rcases List.mem_append.1 hv with h | h
  · simp at h
    rcases h with rfl | rfl | rfl | rfl <;> rfl
  · exact Lib.byteCells_one _ v h
theorem builtZero : Tryz.prog.built 66 [] = some zero.cells.toArray := by kernel_rfl
theorem builtEnv (key boot n : Int) : Tryz.prog.built 66 [(0, .int .i64 key), (1, .int .u32 boot), (2, .int .u64 n)] = some ([Value.int .i64 key, .int .u32 boot, .int .u64 n, .string ⟨#[]⟩] ++ Lib.byteCells (List.replicate 32 0)).toArray := by kernel_rfl
end Se

set_option maxRecDepth 100000 in
set_option maxHeartbeats 1000000 in
theorem close_any {w : World} (hH : Sm.HAt w) (hK : Sm.KAt w) (hsz : 1 < w.heap.size) (k : List UInt8) (hk : k.length = 32) (key : Int) (hkey : -9223372036854775808 ≤ key ∧ key ≤ 9223372036854775807) (boot n : Nat) (hb : boot < 2 ^ 32) (hn : n < 2 ^ 64) (about text : ByteArray) (ha : about.size ≤ 1099511627776) (ht : text.size ≤ 9223372036854775807) :
    Calls Tryz.prog 21 #[.agg (Lib.byteCells k).toArray, .int .i64 key, .int .u32 boot, .int .u64 n, .string about, .string text] w fun e w' =>
      e = .returned (.tuple #[.agg (Se.close k key boot n about.data.toList text.data.toList).1.cells.toArray, .int .i64 (Se.close k key boot n about.data.toList text.data.toList).2]) ∧ Below w.heap.size w w' := by
  obtain ⟨ckl, hck⟩ : ∃ c, c = Lib.byteCells k := ⟨_, rfl⟩
  have hckl : ckl.length = 32 := by rw [hck, Lib.byteCells_length, hk]
  have htl : text.data.toList.length = text.size := by rw [Array.length_toList]; rfl
  have HH := Lib.hid hH
  have HK := Lib.hid hK
  have HCK := Lib.hid hck
  obtain ⟨N, hN⟩ : ∃ N, N = w.heap.size := ⟨_, rfl⟩
  have r0 : (w.alloc (.cells ckl.toArray 74)).heap[N]? = some (.cells ckl.toArray 74 (0, 0)) := by rw [hN]; exact heap_alloc_new w _
  have b1 : Below N w (w.alloc (.cells ckl.toArray 74)) := by rw [hN]; exact Se.below_new w _
  have s1 : (w.alloc (.cells ckl.toArray 74)).heap.size = N + 1 := by rw [hN]; simp
  rw [← hck, ← hN]
  have HN := Lib.hid hN
  clear hck hN hH hK
  have hz1 := (zero_of_info Se.zeroEnv).1
  have hzs : Se.zero.cells.toArray.size = 36 := Se.cells_length _ (by rfl)
  have hzo := Se.cells_one Se.zero
  obtain ⟨z0, hz0⟩ : ∃ z, z = Se.zero.cells.toArray := ⟨_, rfl⟩
  rw [← hz0] at hz1 hzs hzo
  have HZ := Lib.hid hz0
  have r1 : ((w.alloc (.cells ckl.toArray 74)).alloc (.cells z0 66)).heap[N + 1]? = some (.cells z0 66 (0, 0)) := by
    rw [← s1]; exact heap_alloc_new _ _
  have R0 : Hid (((w.alloc (.cells ckl.toArray 74)).alloc (.cells z0 66)).heap[N]? = some (.cells ckl.toArray 74 (0, 0))) := by
    show _ = _
    rw [Below.heap_alloc _ _ _ (by omega)]; exact r0
  have R1 := Lib.hid r1
  have B2 : Hid (Below N w ((w.alloc (.cells ckl.toArray 74)).alloc (.cells z0 66))) := by
    show Below _ _ _
    exact b1.alloc (by omega) _
  have s2 : ((w.alloc (.cells ckl.toArray 74)).alloc (.cells z0 66)).heap.size = N + 2 := by rw [HN.out]; simp
  clear hz0 r0 r1 b1 s1
  have NU := Lib.hid (fun wx => numbered_any wx key)
  unfold Se.close
  by_cases h0 : 0 ≤ key ∧ key ≤ 1048576
  · rw [if_pos h0]
    rw [decide_eq_true h0] at NU
    by_cases h1 : text.data.toList.length ≤ 8192
    · rw [if_pos h1]
      rw [htl] at h1
      have h1i : (text.size : Int) ≤ 8192 := by omega
      have hsl : (Se.strm k boot n text.data.toList).length = text.size := by rw [Se.strm_length, htl]
      obtain ⟨e0, he0⟩ : ∃ e : Se.Env, e = ⟨key, boot, n, ⟨#[]⟩, List.replicate 32 0⟩ := ⟨_, rfl⟩
      have hc0 : e0.cells.length = 36 := Se.cells_length _ (by rw [he0]; rfl)
      obtain ⟨c0, hc0e⟩ : ∃ c, c = e0.cells := ⟨_, rfl⟩
      rw [← hc0e] at hc0
      have hc0s : c0.toArray.size = 36 := by rw [List.size_toArray, hc0]
      have hone0 : c0.toArray.all (·.oneCell') = true := by rw [hc0e]; exact Se.cells_one _
      have BE : Hid (Tryz.prog.built 66 [(0, .int .i64 key), (1, .int .u32 boot), (2, .int .u64 n)] = some c0.toArray) := by
        show _ = _
        rw [hc0e, he0]; exact Se.builtEnv key boot n
      have HC0 : Hid (c0 = e0.cells) := hc0e
      have HE0 := Lib.hid he0
      clear hc0e he0
      go_enter Tryz.func21, Tryz.ntmps21
      go_upto_region 1 with (fail)
      rw [← HN.out]
      generalize (w.alloc (.cells ckl.toArray 74)).alloc (.cells z0 66) = W2 at *
      have p3 := heap_alloc_new W2 (.cells c0.toArray 66)
      have b3 : Below N w (W2.alloc (.cells c0.toArray 66)) := B2.out.alloc (by omega) _
      have q3 : (W2.alloc (.cells c0.toArray 66)).heap[N]? = some (.cells ckl.toArray 74 (0, 0)) := by
        rw [Below.heap_alloc _ _ _ (by omega)]; exact R0.out
      have r3 : (W2.alloc (.cells c0.toArray 66)).heap[N + 1]? = some (.cells z0 66 (0, 0)) := by
        rw [Below.heap_alloc _ _ _ (by omega)]; exact R1.out
      have s3 : (W2.alloc (.cells c0.toArray 66)).heap.size = N + 3 := by simp; omega
      rw [s2] at p3
      have hst : (storeCells ⟨N + 2, 0, none⟩ c0).run Tryz.prog (W2.alloc (.cells z0 66)) = .ok () (W2.alloc (.cells c0.toArray 66)) := by
        rw [← s2]
        exact run_storeCells_new (P := Tryz.prog) W2 66 z0 _ (Se.infoEnv hc0s) (by rw [hc0s]; exact hzs) hone0
      go_wp2_with fail
      refine (NU.out _).mono ?_
      rintro e w2 ⟨rfl, rfl⟩
      clear NU
      go_upto_region 6 with (with_reducible refine wpList_build_eq rfl 66 _ rfl c0.toArray (by with_unfolding_all exact BE.out) ?_)
      clear hst
      have P3 := Lib.hid p3
      have Q3 := Lib.hid q3
      have R3 := Lib.hid r3
      have B3 := Lib.hid b3
      clear p3 q3 r3 b3 BE
      generalize W2.alloc (.cells c0.toArray 66) = W3 at *
      have hN1 : 1 < N := by rw [HN.out]; exact hsz
      have STR : Hid (∀ wx : World, Sm.HAt wx → Sm.KAt wx → 1 < wx.heap.size → Calls Tryz.prog 40 #[.agg ckl.toArray, .agg c0.toArray, .string text] wx fun e w' => e = .returned (.string ⟨(Se.strm k boot n text.data.toList).toArray⟩) ∧ Below wx.heap.size wx w') := fun wx h1 h2 h3 => by
        have h := streamed_any h1 h2 h3 k hk e0 text (by omega)
        rw [HCK.out, HC0.out]
        rw [HE0.out] at h ⊢
        exact h
      have hicl : (Tryz.prog.info? 74).map (·.size) = some ckl.toArray.size := by rw [List.size_toArray, hckl]; kernel_rfl
      go_wp2_with (first | (with_reducible refine wpList_load_row rfl 74 (.tmp 6) rfl N rfl 74 ckl.toArray (0, 0) _ (by exact Q3.out) Tryz.underlying74 rfl hicl ?_) | (with_reducible refine wpList_load_row rfl 66 (.tmp 14) rfl (N + 2) rfl 66 c0.toArray (0, 0) _ (by exact P3.out) Tryz.underlying66 rfl (Se.infoEnv hc0s) ?_))
      refine (STR.out _ (HH.out.low B3.out (by omega)) (HK.out.low B3.out hN1) (by omega)).mono ?_
      rintro e w4 ⟨rfl, k4⟩
      have P4 := Lib.hid ((k4.block (N + 2) (by omega)).trans P3.out)
      have Q4 := Lib.hid ((k4.block N (by omega)).trans Q3.out)
      have R4 := Lib.hid ((k4.block (N + 1) (by omega)).trans R3.out)
      have B4 := Lib.hid (B3.out.trans (k4.mono (by omega)))
      have s4 := k4.size
      clear k4 P3 Q3 R3 B3 STR
      obtain ⟨d, hd⟩ : ∃ d, d = Se.strm k boot n text.data.toList := ⟨_, rfl⟩
      rw [← hd] at hsl ⊢
      obtain ⟨e1, he1⟩ : ∃ e : Se.Env, e = Se.bare k key boot n text.data.toList := ⟨_, rfl⟩
      have c43 : w4.cell? ⟨N + 2, 3, none⟩ = some (.string ⟨#[]⟩) := Sm.cells_of P4.out 3 _ (by rw [HC0.out, HE0.out]; rfl)
      have f43 := Sm.free_of P4.out 3
      have p5 : (w4.setCell ⟨N + 2, 3, none⟩ (.string ⟨d.toArray⟩)).heap[N + 2]? = some (.cells e1.cells.toArray 66 (0, 0)) := by
        rw [Sm.heap_set P4.out 3 _, HC0.out, HE0.out, he1, hd]
        rfl
      have q5 : (w4.setCell ⟨N + 2, 3, none⟩ (.string ⟨d.toArray⟩)).heap[N]? = some (.cells ckl.toArray 74 (0, 0)) := by
        rw [Below.heap_setCell _ _ _ _ (by show N ≠ N + 2; omega)]; exact Q4.out
      have r5 : (w4.setCell ⟨N + 2, 3, none⟩ (.string ⟨d.toArray⟩)).heap[N + 1]? = some (.cells z0 66 (0, 0)) := by
        rw [Below.heap_setCell _ _ _ _ (by show N + 1 ≠ N + 2; omega)]; exact R4.out
      have b5 : Below N w (w4.setCell ⟨N + 2, 3, none⟩ (.string ⟨d.toArray⟩)) := B4.out.setCell (by show N ≤ N + 2; omega) _
      have s5 : (w4.setCell ⟨N + 2, 3, none⟩ (.string ⟨d.toArray⟩)).heap.size = w4.heap.size := by simp
      have HD := Lib.hid hd
      have HE1 := Lib.hid he1
      clear hd he1
      go_upto_region 7 with (fail)
      generalize w4.setCell ⟨N + 2, 3, none⟩ (.string ⟨d.toArray⟩) = w5 at *
      have P5 := Lib.hid p5
      have Q5 := Lib.hid q5
      have R5 := Lib.hid r5
      have B5 := Lib.hid b5
      clear p5 q5 r5 b5 c43 f43 P4 Q4 R4 B4
      have hc1 : e1.cells.length = 36 := Se.cells_length _ (by rw [HE1.out]; rfl)
      have ok1 : e1.Ok := by
        rw [HE1.out]
        refine ⟨hkey, hb, hn, ?_, by rfl⟩
        show (Se.strm k boot n text.data.toList).toArray.size ≤ _
        rw [List.size_toArray, ← HD.out]
        omega
      have hr1 : 0 ≤ e1.key := by rw [HE1.out]; exact h0.1
      have hd1 : e1.data.size ≤ 1099511627776 := by
        rw [HE1.out]
        show (Se.strm k boot n text.data.toList).toArray.size ≤ _
        rw [List.size_toArray, ← HD.out]
        omega
      have hT : Se.tagOf k e1 about.data.toList = Se.tagOf k (Se.bare k key boot n text.data.toList) about.data.toList := by rw [HE1.out]
      have htl2 := Se.tagOf_length k e1 about.data.toList
      obtain ⟨tg, htg⟩ : ∃ t, t = Lib.byteCells (Se.tagOf k e1 about.data.toList) := ⟨_, rfl⟩
      have htgl : tg.length = 32 := by rw [htg, Lib.byteCells_length, htl2]
      have hto : tg.toArray.all (·.oneCell') = true := by rw [htg]; exact Sm.bytes_one _
      obtain ⟨c1, hc1e⟩ : ∃ c, c = e1.cells := ⟨_, rfl⟩
      rw [← hc1e] at hc1
      have hc1s : c1.toArray.size = 36 := by rw [List.size_toArray, hc1]
      have TAG : Hid (∀ wx : World, Sm.HAt wx → Sm.KAt wx → 1 < wx.heap.size → Calls Tryz.prog 41 #[.agg ckl.toArray, .agg c1.toArray, .string about] wx fun e w' => e = .returned (.agg tg.toArray) ∧ Below wx.heap.size wx w') := fun wx h1 h2 h3 => by
        rw [HCK.out, hc1e, htg]
        exact tagOf_any h1 h2 h3 k hk e1 ok1 hr1 about ha hd1
      have P6 : Hid (w5.heap[N + 2]? = some (.cells c1.toArray 66 (0, 0))) := by
        show _ = _
        rw [hc1e]; exact P5.out
      obtain ⟨c2, hc2e⟩ : ∃ c, c = (Se.sealed k key boot n about.data.toList text.data.toList).cells := ⟨_, rfl⟩
      have hc12 : c1.toArray.toList.take 4 ++ (tg ++ c1.toArray.toList.drop (4 + tg.length)) = c2 := by
        rw [hc2e, htgl, hc1e, htg, hT, HE1.out]
        rfl
      have hc2 : c2.length = 36 := by rw [hc2e]; exact Se.cells_length _ (Se.tagOf_length _ _ _)
      have hc2s : c2.toArray.size = 36 := by rw [List.size_toArray, hc2]
      have hc2o : c2.toArray.all (·.oneCell') = true := by rw [hc2e]; exact Se.cells_one _
      have HC12 := Lib.hid hc12
      have HC2 := Lib.hid hc2e
      have hith : (Tryz.prog.info? 64).map (·.size) = some tg.toArray.size := Sm.infoHash (by rw [List.size_toArray, htgl])
      clear htg hc1e hc2e hc12 hT P5 ok1 hd1 htl2 HE1 HD HE0 HC0
      go_wp2_with (first | (with_reducible refine wpList_load_row rfl 74 (.tmp 6) rfl N rfl 74 ckl.toArray (0, 0) _ (by exact Q5.out) Tryz.underlying74 rfl hicl ?_) | (with_reducible refine wpList_load_row rfl 66 (.tmp 14) rfl (N + 2) rfl 66 c1.toArray (0, 0) _ (by exact P6.out) Tryz.underlying66 rfl (Se.infoEnv hc1s) ?_))
      refine (TAG.out _ (HH.out.low B5.out (by omega)) (HK.out.low B5.out hN1) (by omega)).mono ?_
      rintro e w7 ⟨rfl, k7⟩
      have P7 := Lib.hid ((k7.block (N + 2) (by omega)).trans P6.out)
      have R7 := Lib.hid ((k7.block (N + 1) (by omega)).trans R5.out)
      have B7 := Lib.hid (B5.out.trans (k7.mono (by omega)))
      have s7 := k7.size
      have ht7 : w7.there (N + 2) 4 tg.toArray.size := fun j hj => by
        rw [List.size_toArray, htgl] at hj
        exact ⟨by rw [Sm.cells_of P7.out (4 + j) _ (Array.getElem?_eq_getElem (by omega))]; rfl, Sm.free_of P7.out _⟩
      have HT7 := Lib.hid ht7
      clear k7 P6 Q5 R5 B5 TAG ht7
      go_upto_region 8 with (with_reducible refine wpList_store_mid rfl 64 (.tmp 36) (.tmp 35) rfl (N + 2) 4 tg.toArray rfl rfl (by exact HT7.out) hith hto ?_)
      have p8 := Sm.heap_setCells tg 4 w7 c1.toArray P7.out (by rw [hc1s, htgl]; exact Nat.le_refl _)
      rw [HC12.out] at p8
      have P8 := Lib.hid p8
      have R8 : Hid ((w7.setCells (N + 2) 4 tg).heap[N + 1]? = some (.cells z0 66 (0, 0))) := Sm.other_setCells (by omega) R7.out
      have B8 : Hid (Below N w (w7.setCells (N + 2) 4 tg)) := Sm.below_setCells (by omega) _ _ B7.out
      clear p8 P7 R7 B7 HT7
      generalize w7.setCells (N + 2) 4 tg = w8 at *
      have hz2 : z0.size = c2.toArray.size := by rw [hzs, hc2s]
      go_wp2_with (first | (with_reducible refine wpList_load_row rfl 66 (.tmp 14) rfl (N + 2) rfl 66 c2.toArray (0, 0) _ (by exact P8.out) Tryz.underlying66 rfl (Se.infoEnv hc2s) ?_) | (with_reducible refine wpList_store_row rfl 66 (.tmp 12) (.tmp 37) rfl (N + 1) c2.toArray rfl rfl 66 _ (by exact R8.out) (Se.infoEnv hc2s) hz2 hc2o ?_))
      exact bodyPost_ret (v := .tuple #[.agg c2.toArray, .int .i64 0]) (Se.results_row_tmp rfl _ _ (N + 1) 66 _ (0, 0) _ _ rfl (setRow_heap _ (N + 1) _ _ _ _ R8.out) Tryz.underlying66 rfl (Se.infoEnv hc2s) rfl) rfl ⟨by rw [HC2.out]; rfl, Sm.below_setRow B8.out (by omega) _⟩
    · rw [if_neg h1]
      rw [htl] at h1
      have h1i : ¬ (text.size : Int) ≤ 8192 := by omega
      show Calls _ _ _ _ fun e w' => e = .returned (.tuple #[.agg Se.zero.cells.toArray, .int .i64 3]) ∧ Below N w w'
      rw [← HZ.out]
      go_enter Tryz.func21, Tryz.ntmps21
      go_upto_region 1 with (fail)
      rw [← HN.out]
      generalize (w.alloc (.cells ckl.toArray 74)).alloc (.cells z0 66) = W2 at *
      clear hz1
      go_wp2_with fail
      refine (NU.out _).mono ?_
      rintro e w2 ⟨rfl, rfl⟩
      go_wp2_with (first | (with_reducible refine wpList_build_eq rfl 66 #[] rfl z0 (by rw [HZ.out]; kernel_rfl) ?_) | (with_reducible refine wpList_store_row rfl 66 (.tmp 12) (.tmp 22) rfl (N + 1) z0 rfl rfl 66 _ (by exact R1.out) (Se.infoEnv hzs) rfl hzo ?_))
      exact bodyPost_ret (v := .tuple #[.agg z0, .int .i64 3]) (Se.results_row_tmp rfl _ _ (N + 1) 66 _ (0, 0) _ _ rfl (setRow_heap _ (N + 1) _ _ _ _ R1.out) Tryz.underlying66 rfl (Se.infoEnv hzs) rfl) rfl ⟨rfl, Sm.below_setRow B2.out (by omega) _⟩
  · rw [if_neg h0]
    rw [decide_eq_false h0] at NU
    show Calls _ _ _ _ fun e w' => e = .returned (.tuple #[.agg Se.zero.cells.toArray, .int .i64 1]) ∧ Below N w w'
    rw [← HZ.out]
    go_enter Tryz.func21, Tryz.ntmps21
    go_upto_region 1 with (fail)
    rw [← HN.out]
    generalize (w.alloc (.cells ckl.toArray 74)).alloc (.cells z0 66) = W2 at *
    clear hz1
    go_wp2_with fail
    refine (NU.out _).mono ?_
    rintro e w2 ⟨rfl, rfl⟩
    go_wp2_with (first | (with_reducible refine wpList_build_eq rfl 66 #[] rfl z0 (by rw [HZ.out]; kernel_rfl) ?_) | (with_reducible refine wpList_store_row rfl 66 (.tmp 12) (.tmp 18) rfl (N + 1) z0 rfl rfl 66 _ (by exact R1.out) (Se.infoEnv hzs) rfl hzo ?_))
    exact bodyPost_ret (v := .tuple #[.agg z0, .int .i64 1]) (Se.results_row_tmp rfl _ _ (N + 1) 66 _ (0, 0) _ _ rfl (setRow_heap _ (N + 1) _ _ _ _ R1.out) Tryz.underlying66 rfl (Se.infoEnv hzs) rfl) rfl ⟨rfl, Sm.below_setRow B2.out (by omega) _⟩
end Go.Proofs.YtibpgmcpcelmpaaGreatDoor

/-
  What seal's Open does.
-/
namespace Go.Proofs.YtibpgmcpcelmpaaGreatDoor
open Go.RowKit Pk
namespace Se
/-- What Open answers. -/
def opened (k : List UInt8) (x : Env) (about : List UInt8) : List UInt8 × Nat :=
  if x.Right then (if x.tag = tagOf k x about then (strm k x.boot x.n x.data.data.toList, 0) else ([], 13)) else ([], 1)
end Se

set_option maxRecDepth 100000 in
set_option maxHeartbeats 1000000 in
theorem open_any {w : World} (hH : Sm.HAt w) (hK : Sm.KAt w) (hsz : 1 < w.heap.size) (k : List UInt8) (hk : k.length = 32) (x : Se.Env) (ok : x.Ok) (about : ByteArray) (ha : about.size ≤ 1099511627776) :
    Calls Tryz.prog 25 #[.agg (Lib.byteCells k).toArray, .agg x.cells.toArray, .string about] w fun e w' =>
      e = .returned (.tuple #[.string ⟨(Se.opened k x about.data.toList).1.toArray⟩, .int .i64 (Se.opened k x about.data.toList).2]) ∧ Below w.heap.size w w' := by
  obtain ⟨ckl, hck⟩ : ∃ c, c = Lib.byteCells k := ⟨_, rfl⟩
  have hckl : ckl.length = 32 := by rw [hck, Lib.byteCells_length, hk]
  have HH := Lib.hid hH
  have HK := Lib.hid hK
  have HCK := Lib.hid hck
  obtain ⟨cs, hcs⟩ : ∃ c, c = x.cells := ⟨_, rfl⟩
  have hcsl : cs.length = 36 := by rw [hcs]; exact Se.cells_length x ok.tag
  have hcss : cs.toArray.size = 36 := by rw [List.size_toArray, hcsl]
  have HCS := Lib.hid hcs
  obtain ⟨N, hN⟩ : ∃ N, N = w.heap.size := ⟨_, rfl⟩
  have hN1 : 1 < N := by omega
  have r0 : ((w.alloc (.cells ckl.toArray 74)).alloc (.cells cs.toArray 66)).heap[N]? = some (.cells ckl.toArray 74 (0, 0)) := by
    rw [hN, Below.heap_alloc _ _ _ (by simp)]; exact heap_alloc_new w _
  have r1 : ((w.alloc (.cells ckl.toArray 74)).alloc (.cells cs.toArray 66)).heap[N + 1]? = some (.cells cs.toArray 66 (0, 0)) := by
    rw [hN]
    simpa using heap_alloc_new (w.alloc (.cells ckl.toArray 74)) (.cells cs.toArray 66)
  have b2 : Below N w ((w.alloc (.cells ckl.toArray 74)).alloc (.cells cs.toArray 66)) := by
    rw [hN]; exact ((Below.refl _ w).alloc (Nat.le_refl _) _).alloc (by simp) _
  have s2 : ((w.alloc (.cells ckl.toArray 74)).alloc (.cells cs.toArray 66)).heap.size = N + 2 := by rw [hN]; simp
  have R0 := Lib.hid r0
  have R1 := Lib.hid r1
  have B2 := Lib.hid b2
  have hicl : (Tryz.prog.info? 74).map (·.size) = some ckl.toArray.size := by rw [List.size_toArray, hckl]; kernel_rfl
  rw [← hck, ← hcs, ← hN]
  have HN := Lib.hid hN
  have RI : Hid (∀ wx : World, Calls Tryz.prog 46 #[.agg cs.toArray] wx fun e w' => e = .returned (.bool (decide x.Right)) ∧ Below wx.heap.size wx w') := fun wx => by
    rw [hcs]; exact right_any wx x ok
  clear hck hcs hN hH hK r0 r1 b2
  unfold Se.opened
  by_cases hr : x.Right
  · rw [if_pos hr]
    rw [decide_eq_true hr] at RI
    have TL : Hid (∀ wx : World, wx.heap[N + 1]? = some (.cells cs.toArray 66 (0, 0)) → wx.rangeAt (N + 1) 4 (Lib.byteCells x.tag)) := fun wx h j v hv => by
      rw [HCS.out] at h
      have hj := (List.getElem?_eq_some_iff.1 hv).1
      rw [Lib.byteCells_length] at hj
      rw [Se.EnvAt.tag h j hj, ← hv, Sm.byteCells_get hj]
    have hxl : (Lib.byteCells x.tag).length = 32 := by rw [Lib.byteCells_length, ok.tag]
    have hgl := Se.tagOf_length k x about.data.toList
    obtain ⟨tg, htg⟩ : ∃ t, t = Se.tagOf k x about.data.toList := ⟨_, rfl⟩
    have TAG : Hid (∀ wx : World, Sm.HAt wx → Sm.KAt wx → 1 < wx.heap.size → Calls Tryz.prog 41 #[.agg ckl.toArray, .agg cs.toArray, .string about] wx fun e w' => e = .returned (.agg (Lib.byteCells tg).toArray) ∧ Below wx.heap.size wx w') := fun wx h1 h2 h3 => by
      rw [HCK.out, HCS.out, htg]
      exact tagOf_any h1 h2 h3 k hk x ok hr.1.1 about ha (Nat.le_trans hr.2 (by decide))
    rw [← htg] at hgl ⊢
    have EQ := Lib.hid (equal_any x.tag tg ok.tag hgl)
    obtain ⟨tl, htl⟩ : ∃ t, t = Lib.byteCells x.tag := ⟨_, rfl⟩
    rw [← htl] at TL EQ hxl
    obtain ⟨tc, htc⟩ : ∃ t, t = (Lib.byteCells tg).toArray := ⟨_, rfl⟩
    rw [← htc] at TAG EQ
    have hitl : (Tryz.prog.info? 64).map (·.size) = some tl.length := by rw [hxl]; kernel_rfl
    have hick : (Tryz.prog.info? 74).map (·.size) = some ckl.length := by rw [hckl]; kernel_rfl
    have hics : (Tryz.prog.info? 66).map (·.size) = some cs.length := by rw [hcsl]; kernel_rfl
    have HTG := Lib.hid htg
    clear htg htl htc hgl hxl hicl
    by_cases he : x.tag = tg
    · rw [if_pos he]
      rw [beq_iff_eq.2 he] at EQ
      go_enter Tryz.func25, Tryz.ntmps25
      go_upto_region 1 with (fail)
      rw [← HN.out]
      generalize (w.alloc (.cells ckl.toArray 74)).alloc (.cells cs.toArray 66) = W2 at *
      go_wp2_with (with_reducible refine wpList_load_row rfl 66 (.tmp 4) rfl (N + 1) rfl 66 cs.toArray (0, 0) _ (by exact R1.out) Tryz.underlying66 rfl (Se.infoEnv hcss) ?_)
      refine (RI.out _).mono ?_
      rintro e w3 ⟨rfl, k3⟩
      have P3 := Lib.hid ((k3.block N (by omega)).trans R0.out)
      have Q3 := Lib.hid ((k3.block (N + 1) (by omega)).trans R1.out)
      have B3 := Lib.hid (B2.out.trans (k3.mono (by omega)))
      have s3 := k3.size
      clear k3 R0 R1 B2 RI
      have P3 : Hid (w3.drew.heap[N]? = some (.cells ckl.toArray 74 (0, 0))) := P3.out
      have Q3 : Hid (w3.drew.heap[N + 1]? = some (.cells cs.toArray 66 (0, 0))) := Q3.out
      have B3 : Hid (Below N w w3.drew) := B3.out.drew
      have s3 : W2.heap.size ≤ w3.drew.heap.size := s3
      have T3 := Lib.hid (TL.out _ Q3.out)
      go_upto_region 3 with (fail)
      refine wp_region_held_drew (S := fun w' => w'.rangeAt N 0 ckl ∧ w'.rangeAt (N + 1) 0 cs ∧ w'.rangeAt (N + 1) 4 tl) (by kernel_rfl) ⟨Sm.range_row P3.out, Sm.range_row Q3.out, T3.out⟩ (fun hHeld => ?_)
      refine wpAnyH_take (i := 0) (oi := ⟨some 11, _, _, _, _, _⟩) (v := .pointer (some ⟨N + 1, 4, none⟩)) rfl (by kernel_rfl) (by kernel_rfl) (by kernel_rfl) (fun _ _ _ h => h) (Or.inl ⟨by rfl, ?_⟩) (by assumption) ?_
      · intro w hSw; (try dsimp only at hSw); go_simp
      simp only [Act.put, List.setIfInBounds_toArray, List.set_cons_zero, List.set_cons_succ]
      refine wpAnyH_take (i := 1) (oi := ⟨some 12, _, _, _, _, _⟩) (v := .agg tl.toArray) rfl (by kernel_rfl) (by kernel_rfl) (by kernel_rfl) (fun _ _ _ h => h) (yieldsIf_load_mid (by rfl) _ _ rfl _ _ rfl tl _ (fun w hS => hS.2.2) Tryz.underlying64 rfl hitl) (by assumption) ?_
      simp only [Act.put, List.setIfInBounds_toArray, List.set_cons_zero, List.set_cons_succ]
      refine wpAnyH_take (i := 2) (oi := ⟨some 13, _, _, _, _, _⟩) (v := .agg ckl.toArray) rfl (by kernel_rfl) (by kernel_rfl) (by kernel_rfl) (fun _ _ _ h => h) (yieldsIf_load_mid (by rfl) _ _ rfl _ _ rfl ckl _ (fun w hS => hS.1) Tryz.underlying74 rfl hick) (by assumption) ?_
      simp only [Act.put, List.setIfInBounds_toArray, List.set_cons_zero, List.set_cons_succ]
      refine wpAnyH_take (i := 3) (oi := ⟨some 14, _, _, _, _, _⟩) (v := .agg cs.toArray) rfl (by kernel_rfl) (by kernel_rfl) (by kernel_rfl) (fun _ _ _ h => h) (yieldsIf_load_mid (by rfl) _ _ rfl _ _ rfl cs _ (fun w hS => hS.2.1) Tryz.underlying66 rfl hics) (by assumption) ?_
      simp only [Act.put, List.setIfInBounds_toArray, List.set_cons_zero, List.set_cons_succ]
      refine wpAnyH_take (i := 4) (oi := ⟨some 15, _, _, _, _, _⟩) (v := .string about) rfl (by kernel_rfl) (by kernel_rfl) (by kernel_rfl) (fun _ _ _ h => h) (Or.inl ⟨by rfl, ?_⟩) (by assumption) ?_
      · intro w hSw; (try dsimp only at hSw); go_simp
      simp only [Act.put, List.setIfInBounds_toArray, List.set_cons_zero, List.set_cons_succ]
      refine wpAnyH_ready (rs := [5]) (by kernel_rfl) (by simp) ?_
      refine AllReadyH.cons (o := ⟨some 16, _, _, _, _, _⟩) rfl (fun K hK => ?_) AllReadyH.nil
      go_simp
      refine (TAG.out _ (HH.out.low B3.out (by omega)) (HK.out.low B3.out hN1) (by omega)).mono ?_
      rintro e w4 ⟨rfl, k4⟩
      have P4 := Lib.hid ((k4.block N (by omega)).trans P3.out)
      have Q4 := Lib.hid ((k4.block (N + 1) (by omega)).trans Q3.out)
      have T4 := Lib.hid (TL.out _ Q4.out)
      have B4 := Lib.hid (B3.out.trans (k4.mono (by omega)))
      have s4 := k4.size
      clear k4
      refine hK.out _ _ ⟨Sm.range_row P4.out, Sm.range_row Q4.out, T4.out⟩ (fun hHeld => ?_)
      clear hK K
      refine wpAnyH_ready (rs := [6]) (by kernel_rfl) (by simp) ?_
      refine AllReadyH.cons (o := ⟨some 17, _, _, _, _, _⟩) rfl (fun K hK => ?_) AllReadyH.nil
      go_simp
      refine (EQ.out _).mono ?_
      rintro e w5 ⟨rfl, k5⟩
      have P5 := Lib.hid ((k5.block N (by omega)).trans P4.out)
      have Q5 := Lib.hid ((k5.block (N + 1) (by omega)).trans Q4.out)
      have T5 := Lib.hid (TL.out _ Q5.out)
      have B5 := Lib.hid (B4.out.trans (k5.mono (by omega)))
      have s5 := k5.size
      clear k5
      refine hK.out _ _ ⟨Sm.range_row P5.out, Sm.range_row Q5.out, T5.out⟩ (fun hHeld => ?_)
      clear hK K
      refine wpAnyH_take (i := 7) (oi := ⟨some 18, _, _, _, _, _⟩) (v := .bool false) rfl (by kernel_rfl) (by kernel_rfl) (by kernel_rfl) (fun _ _ _ h => h) (Or.inl ⟨by rfl, ?_⟩) (by assumption) ?_
      · intro w hSw; (try dsimp only at hSw); go_simp
      simp only [Act.put, List.setIfInBounds_toArray, List.set_cons_zero, List.set_cons_succ]
      refine wpAnyH_done (by kernel_rfl) ?_ _
      have STR : Hid (∀ wx : World, Sm.HAt wx → Sm.KAt wx → 1 < wx.heap.size → Calls Tryz.prog 40 #[.agg ckl.toArray, .agg cs.toArray, .string x.data] wx fun e w' => e = .returned (.string ⟨(Se.strm k x.boot x.n x.data.data.toList).toArray⟩) ∧ Below wx.heap.size wx w') := fun wx h1 h2 h3 => by
        rw [HCK.out, HCS.out]
        exact streamed_any h1 h2 h3 k hk x x.data (Nat.le_trans hr.2 (by decide))
      have c5 : w5.cell? ⟨N + 1, 3, none⟩ = some (.string x.data) := by
        have h := Q5.out
        rw [HCS.out] at h
        exact (Se.EnvAt.cell h).2.2.2
      have hick2 : (Tryz.prog.info? 74).map (·.size) = some ckl.toArray.size := by rw [List.size_toArray]; exact hick
      go_wp2_with (first | (with_reducible refine wpList_load_row rfl 74 (.tmp 3) rfl N rfl 74 ckl.toArray (0, 0) _ (by exact P5.out) Tryz.underlying74 rfl hick2 ?_) | (with_reducible refine wpList_load_row rfl 66 (.tmp 4) rfl (N + 1) rfl 66 cs.toArray (0, 0) _ (by exact Q5.out) Tryz.underlying66 rfl (Se.infoEnv hcss) ?_))
      refine (STR.out _ (HH.out.low B5.out (by omega)) (HK.out.low B5.out hN1) (by omega)).mono ?_
      rintro e w6 ⟨rfl, k6⟩
      go_wp2_with fail
      refine bodyPost_ret (results_tmp2 rfl _ _ _) rfl ?_
      exact ⟨rfl, B5.out.trans (k6.mono (by omega))⟩
    · rw [if_neg he]
      rw [beq_eq_false_iff_ne.2 he] at EQ
      show Calls _ _ _ _ fun e w' => e = .returned (.tuple #[.string ⟨#[]⟩, .int .i64 13]) ∧ Below N w w'
      go_enter Tryz.func25, Tryz.ntmps25
      go_upto_region 1 with (fail)
      rw [← HN.out]
      generalize (w.alloc (.cells ckl.toArray 74)).alloc (.cells cs.toArray 66) = W2 at *
      go_wp2_with (with_reducible refine wpList_load_row rfl 66 (.tmp 4) rfl (N + 1) rfl 66 cs.toArray (0, 0) _ (by exact R1.out) Tryz.underlying66 rfl (Se.infoEnv hcss) ?_)
      refine (RI.out _).mono ?_
      rintro e w3 ⟨rfl, k3⟩
      have P3 := Lib.hid ((k3.block N (by omega)).trans R0.out)
      have Q3 := Lib.hid ((k3.block (N + 1) (by omega)).trans R1.out)
      have B3 := Lib.hid (B2.out.trans (k3.mono (by omega)))
      have s3 := k3.size
      clear k3 R0 R1 B2 RI
      have P3 : Hid (w3.drew.heap[N]? = some (.cells ckl.toArray 74 (0, 0))) := P3.out
      have Q3 : Hid (w3.drew.heap[N + 1]? = some (.cells cs.toArray 66 (0, 0))) := Q3.out
      have B3 : Hid (Below N w w3.drew) := B3.out.drew
      have s3 : W2.heap.size ≤ w3.drew.heap.size := s3
      have T3 := Lib.hid (TL.out _ Q3.out)
      go_upto_region 3 with (fail)
      refine wp_region_held_drew (S := fun w' => w'.rangeAt N 0 ckl ∧ w'.rangeAt (N + 1) 0 cs ∧ w'.rangeAt (N + 1) 4 tl) (by kernel_rfl) ⟨Sm.range_row P3.out, Sm.range_row Q3.out, T3.out⟩ (fun hHeld => ?_)
      refine wpAnyH_take (i := 0) (oi := ⟨some 11, _, _, _, _, _⟩) (v := .pointer (some ⟨N + 1, 4, none⟩)) rfl (by kernel_rfl) (by kernel_rfl) (by kernel_rfl) (fun _ _ _ h => h) (Or.inl ⟨by rfl, ?_⟩) (by assumption) ?_
      · intro w hSw; (try dsimp only at hSw); go_simp
      simp only [Act.put, List.setIfInBounds_toArray, List.set_cons_zero, List.set_cons_succ]
      refine wpAnyH_take (i := 1) (oi := ⟨some 12, _, _, _, _, _⟩) (v := .agg tl.toArray) rfl (by kernel_rfl) (by kernel_rfl) (by kernel_rfl) (fun _ _ _ h => h) (yieldsIf_load_mid (by rfl) _ _ rfl _ _ rfl tl _ (fun w hS => hS.2.2) Tryz.underlying64 rfl hitl) (by assumption) ?_
      simp only [Act.put, List.setIfInBounds_toArray, List.set_cons_zero, List.set_cons_succ]
      refine wpAnyH_take (i := 2) (oi := ⟨some 13, _, _, _, _, _⟩) (v := .agg ckl.toArray) rfl (by kernel_rfl) (by kernel_rfl) (by kernel_rfl) (fun _ _ _ h => h) (yieldsIf_load_mid (by rfl) _ _ rfl _ _ rfl ckl _ (fun w hS => hS.1) Tryz.underlying74 rfl hick) (by assumption) ?_
      simp only [Act.put, List.setIfInBounds_toArray, List.set_cons_zero, List.set_cons_succ]
      refine wpAnyH_take (i := 3) (oi := ⟨some 14, _, _, _, _, _⟩) (v := .agg cs.toArray) rfl (by kernel_rfl) (by kernel_rfl) (by kernel_rfl) (fun _ _ _ h => h) (yieldsIf_load_mid (by rfl) _ _ rfl _ _ rfl cs _ (fun w hS => hS.2.1) Tryz.underlying66 rfl hics) (by assumption) ?_
      simp only [Act.put, List.setIfInBounds_toArray, List.set_cons_zero, List.set_cons_succ]
      refine wpAnyH_take (i := 4) (oi := ⟨some 15, _, _, _, _, _⟩) (v := .string about) rfl (by kernel_rfl) (by kernel_rfl) (by kernel_rfl) (fun _ _ _ h => h) (Or.inl ⟨by rfl, ?_⟩) (by assumption) ?_
      · intro w hSw; (try dsimp only at hSw); go_simp
      simp only [Act.put, List.setIfInBounds_toArray, List.set_cons_zero, List.set_cons_succ]
      refine wpAnyH_ready (rs := [5]) (by kernel_rfl) (by simp) ?_
      refine AllReadyH.cons (o := ⟨some 16, _, _, _, _, _⟩) rfl (fun K hK => ?_) AllReadyH.nil
      go_simp
      refine (TAG.out _ (HH.out.low B3.out (by omega)) (HK.out.low B3.out hN1) (by omega)).mono ?_
      rintro e w4 ⟨rfl, k4⟩
      have P4 := Lib.hid ((k4.block N (by omega)).trans P3.out)
      have Q4 := Lib.hid ((k4.block (N + 1) (by omega)).trans Q3.out)
      have T4 := Lib.hid (TL.out _ Q4.out)
      have B4 := Lib.hid (B3.out.trans (k4.mono (by omega)))
      have s4 := k4.size
      clear k4
      refine hK.out _ _ ⟨Sm.range_row P4.out, Sm.range_row Q4.out, T4.out⟩ (fun hHeld => ?_)
      clear hK K
      refine wpAnyH_ready (rs := [6]) (by kernel_rfl) (by simp) ?_
      refine AllReadyH.cons (o := ⟨some 17, _, _, _, _, _⟩) rfl (fun K hK => ?_) AllReadyH.nil
      go_simp
      refine (EQ.out _).mono ?_
      rintro e w5 ⟨rfl, k5⟩
      have P5 := Lib.hid ((k5.block N (by omega)).trans P4.out)
      have Q5 := Lib.hid ((k5.block (N + 1) (by omega)).trans Q4.out)
      have T5 := Lib.hid (TL.out _ Q5.out)
      have B5 := Lib.hid (B4.out.trans (k5.mono (by omega)))
      have s5 := k5.size
      clear k5
      refine hK.out _ _ ⟨Sm.range_row P5.out, Sm.range_row Q5.out, T5.out⟩ (fun hHeld => ?_)
      clear hK K
      refine wpAnyH_take (i := 7) (oi := ⟨some 18, _, _, _, _, _⟩) (v := .bool true) rfl (by kernel_rfl) (by kernel_rfl) (by kernel_rfl) (fun _ _ _ h => h) (Or.inl ⟨by rfl, ?_⟩) (by assumption) ?_
      · intro w hSw; (try dsimp only at hSw); go_simp
      simp only [Act.put, List.setIfInBounds_toArray, List.set_cons_zero, List.set_cons_succ]
      refine wpAnyH_done (by kernel_rfl) ?_ _
      go_wp2_with fail
      refine bodyPost_ret (results_tmp2 rfl _ _ _) rfl ?_
      exact ⟨rfl, B5.out⟩
  · rw [if_neg hr]
    rw [decide_eq_false hr] at RI
    show Calls _ _ _ _ fun e w' => e = .returned (.tuple #[.string ⟨#[]⟩, .int .i64 1]) ∧ Below N w w'
    go_enter Tryz.func25, Tryz.ntmps25
    go_upto_region 1 with (fail)
    rw [← HN.out]
    generalize (w.alloc (.cells ckl.toArray 74)).alloc (.cells cs.toArray 66) = W2 at *
    go_wp2_with (with_reducible refine wpList_load_row rfl 66 (.tmp 4) rfl (N + 1) rfl 66 cs.toArray (0, 0) _ (by exact R1.out) Tryz.underlying66 rfl (Se.infoEnv hcss) ?_)
    refine (RI.out _).mono ?_
    rintro e w3 ⟨rfl, k3⟩
    go_wp2_with fail
    refine bodyPost_ret (results_tmp2 rfl _ _ _) rfl ?_
    exact ⟨rfl, B2.out.trans (k3.mono (by omega))⟩
end Go.Proofs.YtibpgmcpcelmpaaGreatDoor

/-
  What seal's Bytes does.
-/
namespace Go.Proofs.YtibpgmcpcelmpaaGreatDoor
open Go.RowKit Pk
namespace Se
/-- What Bytes answers. -/
def spelled (x : Env) : List UInt8 × Nat := if x.Right then (bytes x, 0) else ([], 1)
theorem run_index_hash (w : World) (cs : Array Value) (k : Nat) (hk : k < 32) (v : Value) (hv : cs[k]? = some v) :
    (Instr.index 64 (.agg cs) (.int .i64 k)).run Tryz.prog w = .ok v w := by
  have hu : Tryz.prog.underlying 64 = some (.array 32 5) := Tryz.underlying64
  have h1 : (0 : Int) ≤ (k : Int) ∧ (k : Int) < ((32 : Nat) : Int) := by omega
  simp [Instr.index, run_underlying hu, asIntOf, h1, go_sem, part, hv, hk]
end Se

set_option maxRecDepth 100000 in
set_option maxHeartbeats 1000000 in
theorem bytes5_any (w : World) (x : Se.Env) (ok : x.Ok) :
    Calls Tryz.prog 23 #[.agg x.cells.toArray] w fun e w' =>
      e = .returned (.tuple #[.string ⟨(Se.spelled x).1.toArray⟩, .int .i64 (Se.spelled x).2]) ∧ Below w.heap.size w w' := by
  obtain ⟨cs, hcs⟩ : ∃ c, c = x.cells := ⟨_, rfl⟩
  have hcsl : cs.length = 36 := by rw [hcs]; exact Se.cells_length x ok.tag
  have hcss : cs.toArray.size = 36 := by rw [List.size_toArray, hcsl]
  have HCS := Lib.hid hcs
  obtain ⟨N, hN⟩ : ∃ N, N = w.heap.size := ⟨_, rfl⟩
  have r0 : (w.alloc (.cells cs.toArray 66)).heap[N]? = some (.cells cs.toArray 66 (0, 0)) := by
    rw [hN]; exact heap_alloc_new w _
  have b1 : Below N w (w.alloc (.cells cs.toArray 66)) := by rw [hN]; exact Se.below_new w _
  have s1 : (w.alloc (.cells cs.toArray 66)).heap.size = N + 1 := by rw [hN]; simp
  have R0 := Lib.hid r0
  have B1 := Lib.hid b1
  rw [← hcs, ← hN]
  have HN := Lib.hid hN
  have RI : Hid (∀ wx : World, Calls Tryz.prog 46 #[.agg cs.toArray] wx fun e w' => e = .returned (.bool (decide x.Right)) ∧ Below wx.heap.size wx w') := fun wx => by
    rw [hcs]; exact right_any wx x ok
  clear hcs hN r0 b1
  unfold Se.spelled
  by_cases hr : x.Right
  · rw [if_pos hr]
    rw [decide_eq_true hr] at RI
    go_enter Tryz.func23, Tryz.ntmps23
    go_upto_region 1 with (fail)
    rw [← HN.out]
    generalize w.alloc (.cells cs.toArray 66) = W1 at *
    go_wp2_with (with_reducible refine wpList_load_row rfl 66 (.tmp 1) rfl N rfl 66 cs.toArray (0, 0) _ (by exact R0.out) Tryz.underlying66 rfl (Se.infoEnv hcss) ?_)
    refine (RI.out _).mono ?_
    rintro e w2 ⟨rfl, k2⟩
    have Q2 := Lib.hid ((k2.block N (by omega)).trans R0.out)
    have B2 := Lib.hid (B1.out.trans (k2.mono (by omega)))
    have s2 := k2.size
    clear k2 R0 B1 RI
    have ho3 : outAt (w2.alloc (.cells #[.pointer none, .int .i64 0] 107)) N w2.heap.size [] := ⟨by omega, .inl ⟨heap_alloc_new w2 _, rfl⟩⟩
    have f3 : Fr w2 (w2.alloc (.cells #[.pointer none, .int .i64 0] 107)) := (Fr.refl w2).alloc _
    have b3 : Below N w (w2.alloc (.cells #[.pointer none, .int .i64 0] 107)) := B2.out.alloc (by omega) _
    have s3 : (w2.alloc (.cells #[.pointer none, .int .i64 0] 107)).heap.size = w2.heap.size + 1 := by simp
    have q3 := f3 _ _ _ _ Q2.out (by decide) (by decide) (by decide)
    clear f3 Q2 B2
    go_upto_region 4 with (fail)
    generalize w2.alloc (.cells #[.pointer none, .int .i64 0] 107) = W3 at *
    obtain ⟨o, ho⟩ : ∃ o, o = w2.heap.size := ⟨_, rfl⟩
    rw [← ho] at ho3 ⊢
    have hoN : N ≤ o := by omega
    clear ho
    have NU : Hid (∀ (wx : World) (bs : List UInt8), outAt wx N o bs → N ≤ wx.heap.size → bs.length + 30 ≤ 140737488355328 → Calls Tryz.prog 47 #[.pointer (some ⟨o, 0, none⟩), .agg cs.toArray] wx fun e w' => e = .returned (.tuple #[]) ∧ outAt w' N o (bs ++ Se.head x) ∧ Below N wx w' ∧ Fr wx w') := fun wx bs h1 h2 h3 => by
      rw [HCS.out]; exact numbers_any x ok hr.1.1 h1 h2 h3
    have CELL : Hid (∀ wx : World, wx.heap[N]? = some (.cells cs.toArray 66 (0, 0)) → wx.cell? ⟨N, 3, none⟩ = some (.string x.data) ∧ wx.rangeAt N 4 (Lib.byteCells x.tag)) := fun wx h => by
      rw [HCS.out] at h
      refine ⟨(Se.EnvAt.cell h).2.2.2, fun j v hv => ?_⟩
      have hj := (List.getElem?_eq_some_iff.1 hv).1
      rw [Lib.byteCells_length] at hj
      rw [Se.EnvAt.tag h j hj, ← hv, Sm.byteCells_get hj]
    have lh : (Se.head x).length ≤ 30 := by
      have h1 := enc_len (n := x.key.toNat) (by have := ok.key; omega)
      have h2 := enc_len (n := x.boot) (by have := ok.boot; omega)
      have h3 := enc_len (n := x.n) (by have := ok.n; omega)
      simp only [Se.head, List.length_append]
      omega
    have hd := hr.2
    have ld := enc_len (n := x.data.size) (by omega)
    have Q3 := Lib.hid q3
    clear q3
    go_wp2_with (with_reducible refine wpList_load_row rfl 66 (.tmp 1) rfl N rfl 66 cs.toArray (0, 0) _ (by exact Q3.out) Tryz.underlying66 rfl (Se.infoEnv hcss) ?_)
    refine (NU.out _ [] ho3 (by omega) (by simp)).mono ?_
    rintro e w4 ⟨rfl, ho4, b4, f4⟩
    have e4 := f4 _ _ _ _ Q3.out (by decide) (by decide) (by decide)
    have s4 := b4.size
    have B4 := Lib.hid (b3.trans b4)
    rw [List.nil_append] at ho4
    have c4 := (CELL.out _ e4).1
    have T4 := oText_any_fr x.data ho4 (by omega) (by omega)
    have Q4 := Lib.hid e4
    clear e4 f4 b4 b3 ho3 ho4 Q3 NU
    go_wp2_with fail
    refine T4.mono ?_
    rintro e w5 ⟨rfl, ho5, b5, f5⟩
    have e5 := f5 _ _ _ _ Q4.out (by decide) (by decide) (by decide)
    have s5 := b5.size
    have B5 := Lib.hid (B4.out.trans b5)
    have R5 := Lib.hid (CELL.out _ e5).2
    have hdl : x.data.data.toList.length = x.data.size := by rw [Array.length_toList]; rfl
    have htx : Se.head x ++ (enc x.data.size ++ x.data.data.toList) = Se.head x ++ Se.txt x.data.data.toList := by rw [Se.txt, hdl]
    rw [htx] at ho5
    obtain ⟨pre, hpre⟩ : ∃ p, p = Se.head x ++ Se.txt x.data.data.toList := ⟨_, rfl⟩
    have hprel : pre.length ≤ 9000 := by
      rw [hpre, ← htx]
      simp only [List.length_append]
      omega
    rw [← hpre] at ho5
    have HPRE := Lib.hid hpre
    have htl := ok.tag
    have hxl : (Lib.byteCells x.tag).length = 32 := by rw [Lib.byteCells_length, ok.tag]
    have hitl : (Tryz.prog.info? 64).map (·.size) = some (Lib.byteCells x.tag).length := by rw [hxl]; kernel_rfl
    obtain ⟨tl, htle⟩ : ∃ t, t = Lib.byteCells x.tag := ⟨_, rfl⟩
    rw [← htle] at R5 hxl hitl
    have HTL := Lib.hid htle
    have HO5 := Lib.hid ho5
    clear e5 f5 b5 B4 Q4 T4 c4 CELL htx hdl lh ld hd hpre htle ho5
    go_wp2_with (with_reducible refine wpList_load_mid rfl 64 (.tmp 15) rfl N 4 rfl tl _ (by exact R5.out) Tryz.underlying64 rfl hitl ?_)
    go_loopw [17] (fun i wr => ∃ k : Nat, k ≤ 32 ∧ i = .int .i64 k ∧ outAt wr N o (pre ++ x.tag.take k) ∧ Below N w wr ∧ N ≤ wr.heap.size) (fun i _ => 32 - (intOf i).toNat)
    case atStart => exact ⟨0, by omega, rfl, by rw [List.take_zero, List.append_nil]; exact HO5.out, B5.out, by omega⟩
    case round =>
      clear HO5 B5 R5
      obtain ⟨k, hk, rfl, hok, hbk, hsk⟩ := hrel
      by_cases hlt : k < 32
      · have q1 : (k : Int) < 32 := by omega
        have ht : tl[k]? = some (.int .u8 ((x.tag.getD k 0).toNat : Int)) := by rw [HTL.out]; exact Sm.byteCells_get (by omega)
        have hsn : x.tag.take (k + 1) = x.tag.take k ++ [x.tag.getD k 0] := by
          rw [List.take_add_one, List.getD_eq_getElem?_getD, List.getElem?_eq_getElem (by omega)]
          rfl
        obtain ⟨b, hb⟩ : ∃ b, b = x.tag.getD k 0 := ⟨_, rfl⟩
        rw [← hb] at ht hsn
        clear hb
        have HSN := Lib.hid hsn
        clear hsn
        have hlk : (pre ++ x.tag.take k).length + 1 ≤ 140737488355328 := by rw [List.length_append, List.length_take]; omega
        have BY := oByte_any _ b rfl hok hsk hlk
        have hix := fun wx => Se.run_index_hash wx tl.toArray k hlt _ (by rw [List.getElem?_toArray]; exact ht)
        go_wp2_with fail
        refine BY.mono ?_
        rintro e w6 ⟨rfl, ho6, b6⟩
        go_wp2_with fail
        go_roundw
        case rel =>
          refine ⟨k + 1, by omega, by go_num, ?_, hbk.trans b6, Nat.le_trans hsk b6.size⟩
          rw [HSN.out, ← List.append_assoc]
          exact ho6
        case measure => simp [intOf]; omega
      · obtain rfl : k = 32 := by omega
        have q1 : ¬ ((32 : Nat) : Int) < 32 := by omega
        rw [List.take_of_length_le (by omega)] at hok
        have hres : pre ++ x.tag = Se.bytes x := by rw [HPRE.out]; simp [Se.bytes, List.append_assoc]
        rw [hres] at hok
        have hbl : (Se.bytes x).length ≤ 140737488355328 := by rw [← hres, List.length_append]; omega
        have ST := oString_any hok hbl
        go_wp2_with fail
        refine ST.mono ?_
        rintro e w6 ⟨rfl, n6, rfl⟩
        go_wp2_with fail
        refine bodyPost_ret (results_tmp2 rfl _ _ _) rfl ?_
        exact ⟨rfl, Sm.below_drewN hbk n6⟩
  · rw [if_neg hr]
    rw [decide_eq_false hr] at RI
    show Calls _ _ _ _ fun e w' => e = .returned (.tuple #[.string ⟨#[]⟩, .int .i64 1]) ∧ Below N w w'
    go_enter Tryz.func23, Tryz.ntmps23
    go_upto_region 1 with (fail)
    rw [← HN.out]
    generalize w.alloc (.cells cs.toArray 66) = W1 at *
    go_wp2_with (with_reducible refine wpList_load_row rfl 66 (.tmp 1) rfl N rfl 66 cs.toArray (0, 0) _ (by exact R0.out) Tryz.underlying66 rfl (Se.infoEnv hcss) ?_)
    refine (RI.out _).mono ?_
    rintro e w2 ⟨rfl, k2⟩
    go_wp2_with fail
    refine bodyPost_ret (results_tmp2 rfl _ _ _) rfl ?_
    exact ⟨rfl, B1.out.trans (k2.mono (by omega))⟩
end Go.Proofs.YtibpgmcpcelmpaaGreatDoor
