/-
  What seal's streamed and numbers do.
-/
import Derived.Test.YtapogiihkbjppaaDoorSeFns
namespace Go.Proofs.YtapogiihkbjppaaDoor
open Go.RowKit Pk
namespace Se
theorem cell_lt {w : World} {g o : Nat} {v : Value} (h : w.cell? ⟨g, o, none⟩ = some v) : g < w.heap.size := by
  rcases Nat.lt_or_ge g w.heap.size with h1 | h1
  · exact h1
  · simp [World.cell?, Array.getElem?_eq_none h1] at h
theorem two_keep {w w' : World} {b i j B : Nat} {u v : Value} (hb : b < B) (k : Below B w w') (h : w.cell? ⟨b, i, none⟩ = some u ∧ w.cell? ⟨b, j, none⟩ = some v) : w'.cell? ⟨b, i, none⟩ = some u ∧ w'.cell? ⟨b, j, none⟩ = some v :=
  ⟨(k.cell (p := ⟨b, i, none⟩) hb).trans h.1, (k.cell (p := ⟨b, j, none⟩) hb).trans h.2⟩
end Se

set_option maxRecDepth 100000 in
set_option maxHeartbeats 1000000 in
theorem streamed_any {w : World} (hH : Sm.HAt w) (hK : Sm.KAt w) (hsz : 1 < w.heap.size) (k : List UInt8) (hk : k.length = 32) (x : Se.Env) (t : ByteArray) (ht : t.size ≤ 1099511627776) :
    Calls Tryd.prog 20 #[.agg (Lib.byteCells k).toArray, .agg x.cells.toArray, .string t] w fun e w' => e = .returned (.string ⟨(Se.strm k x.boot x.n t.data.toList).toArray⟩) ∧ Below w.heap.size w w' := by
  obtain ⟨ckl, hck⟩ : ∃ c, c = Lib.byteCells k := ⟨_, rfl⟩
  have hckl : ckl.length = 32 := by rw [hck, Lib.byteCells_length, hk]
  obtain ⟨cs, hcs⟩ : ∃ c, c = x.cells.toArray := ⟨_, rfl⟩
  have g1 := heap_alloc_new w (.cells ckl.toArray 23)
  have b1 := Se.below_new w (.cells ckl.toArray 23)
  have hE := Se.env_new (w.alloc (.cells ckl.toArray 23)) x
  have b2 : Below w.heap.size w ((w.alloc (.cells ckl.toArray 23)).alloc (.cells x.cells.toArray 28)) := b1.alloc b1.size _
  have g2 : ((w.alloc (.cells ckl.toArray 23)).alloc (.cells x.cells.toArray 28)).heap[w.heap.size]? = some (.cells ckl.toArray 23 (0, 0)) := by
    rw [Below.heap_alloc _ _ _ (by simp)]; exact g1
  have s2 : ((w.alloc (.cells ckl.toArray 23)).alloc (.cells x.cells.toArray 28)).heap.size = w.heap.size + 2 := by simp
  rw [show (w.alloc (.cells ckl.toArray 23)).heap.size = w.heap.size + 1 by simp] at hE
  rw [← hcs] at hE b2 g2 s2 ⊢
  rw [← hck]
  have KEY : Hid (∀ wx : World, Sm.HAt wx → Sm.KAt wx → 1 < wx.heap.size → Calls Tryd.prog 18 #[.agg ckl.toArray, .string ⟨#[101, 110, 99]⟩] wx fun e w' => e = .returned (.agg (Lib.byteCells (Sm.tag k Se.encL)).toArray) ∧ Below wx.heap.size wx w') := fun wx h1 h2 h3 => by
    rw [hck]; exact key_any k hk ⟨#[101, 110, 99]⟩ h1 h2 h3 (by decide)
  have STR : Hid (∀ wx : World, Calls Tryd.prog 17 #[.agg (Lib.byteCells (Sm.tag k Se.encL)).toArray, .agg (Lib.byteCells (Se.nonce x.boot x.n)).toArray, .string t] wx fun e w' => e = .returned (.string ⟨(Se.strm k x.boot x.n t.data.toList).toArray⟩) ∧ Below wx.heap.size wx w') := fun wx =>
    stream_any wx _ _ (Sm.tag_length _ _) (Se.nonce_length _ _) t ht
  have HH := Lib.hid hH
  have HK := Lib.hid hK
  obtain ⟨c1, hc1⟩ : ∃ c, c = (Lib.byteCells (Sm.tag k Se.encL)).toArray := ⟨_, rfl⟩
  obtain ⟨c2, hc2⟩ : ∃ c, c = (Lib.byteCells (Se.nonce x.boot x.n)).toArray := ⟨_, rfl⟩
  rw [← hc1] at KEY STR
  rw [← hc2] at STR
  have NON : Hid (∀ wx : World, Calls Tryd.prog 47 #[.int .u32 x.boot, .int .u64 x.n] wx fun e w' => e = .returned (.agg c2) ∧ Below wx.heap.size wx w') := fun wx => by
    rw [hc2]; exact nonceOf_any wx x.boot x.n
  obtain ⟨-, e1, e2, -⟩ := hE.cell
  clear hE hcs hH hK hc1 hc2 hck g1 b1 ht hk
  go_enter Tryd.func20, Tryd.ntmps20
  go_upto_region 1 with (fail)
  generalize (w.alloc (.cells ckl.toArray 23)).alloc (.cells cs 28) = W2 at *
  have G2 : Hid (W2.drew.heap[w.heap.size]? = some (.cells ckl.toArray 23 (0, 0))) := g2
  have B2 : Hid (Below w.heap.size w W2.drew) := b2.drew
  have E2 : Hid (W2.drew.cell? ⟨w.heap.size + 1, 1, none⟩ = some (.int .u32 x.boot) ∧ W2.drew.cell? ⟨w.heap.size + 1, 2, none⟩ = some (.int .u64 x.n)) := ⟨e1, e2⟩
  clear g2 b2 e1 e2
  have hund : Tryd.prog.underlying 23 = some (.array 32 5) := Tryd.underlying23
  have hicl : (Tryd.prog.info? 23).map (·.size) = some ckl.length := by rw [hckl]; kernel_rfl
  go_region_held3 (fun w' => w'.rangeAt w.heap.size 0 ckl ∧ w'.cell? ⟨w.heap.size + 1, 1, none⟩ = some (.int .u32 x.boot) ∧ w'.cell? ⟨w.heap.size + 1, 2, none⟩ = some (.int .u64 x.n))
    (first | (with_reducible exact ⟨Sm.range_row G2.out, E2.out⟩) | (with_reducible exact ⟨Sm.range_row G3.out, E3.out⟩) | (with_reducible exact ⟨Sm.range_row G4.out, E4.out⟩) | (with_reducible exact ⟨Sm.range_row G5.out, E5.out⟩))
    ((first
      | (go_at_call 18; refine (KEY.out _ (HH.out.low B2.out (by omega)) (HK.out.low B2.out hsz) (Nat.lt_of_lt_of_le hsz B2.out.size)).mono ?_; rintro e w3 ⟨rfl, k3⟩; have G3 := Lib.hid ((k3.block w.heap.size (by show w.heap.size < W2.heap.size; omega)).trans G2.out); have E3 := Lib.hid (Se.two_keep (by show w.heap.size + 1 < W2.heap.size; omega) k3 E2.out); have B3 := Lib.hid (Sm.low_low B2.out (Nat.le_refl _) k3); have s3 := k3.size; clear k3)
      | (go_at_call 47; refine (NON.out _).mono ?_; rintro e w4 ⟨rfl, k4⟩; have G4 := Lib.hid ((k4.block w.heap.size (Sm.lt_of G3.out)).trans G3.out); have E4 := Lib.hid (Se.two_keep (Se.cell_lt E3.out.1) k4 E3.out); have B4 := Lib.hid (Sm.low_low B3.out (Nat.le_refl _) k4); clear k4)
      | (go_at_call 17; refine (STR.out _).mono ?_; rintro e w5 ⟨rfl, k5⟩; have G5 := Lib.hid ((k5.block w.heap.size (Sm.lt_of G4.out)).trans G4.out); have E5 := Lib.hid (Se.two_keep (Se.cell_lt E4.out.1) k5 E4.out); have B5 := Lib.hid (Sm.low_low B4.out (Nat.le_refl _) k5); clear k5)))
  go_wp2
  go_ret
  exact ⟨rfl, B5.out⟩

set_option maxRecDepth 100000 in
set_option maxHeartbeats 1000000 in
theorem numbers_any {w : World} (x : Se.Env) (ok : x.Ok) (hr : 0 ≤ x.key) {B o : Nat} {bs : List UInt8} (hout : outAt w B o bs) (hB : B ≤ w.heap.size) (hroom : bs.length + 30 ≤ 140737488355328) :
    Calls Tryd.prog 24 #[.pointer (some ⟨o, 0, none⟩), .agg x.cells.toArray] w fun e w' => e = .returned (.tuple #[]) ∧ outAt w' B o (bs ++ Se.head x) ∧ Below B w w' ∧ Fr w w' := by
  have hE := Se.env_new w x
  have hb := Se.below_new w (.cells x.cells.toArray 28)
  obtain ⟨cs, hcs⟩ : ∃ c, c = x.cells.toArray := ⟨_, rfl⟩
  rw [← hcs] at hE hb ⊢
  obtain ⟨h0, h1, h2, -⟩ := hE.cell
  obtain ⟨kn, hkn⟩ : ∃ kn : Nat, x.key = kn := ⟨x.key.toNat, (Int.toNat_of_nonneg hr).symm⟩
  have hke : x.key.toNat = kn := by omega
  have hkl := ok.key
  have hbl := ok.boot
  have hnl := ok.n
  have HD : Hid (Se.head x = enc kn ++ enc x.boot ++ enc x.n) := by show _ = _; rw [Se.head, hke]
  rw [HD.out]
  rw [hkn] at h0 hkl
  have q0 : (kn : Int) ≤ 9223372036854775807 := hkl.2
  have q1 : (x.boot : Int) < 4294967296 := by omega
  have q2 : (x.n : Int) < 18446744073709551616 := by omega
  have ho1 := hout.kept hb
  have hf : Fr w (w.alloc (.cells cs 28)) := (Fr.refl w).alloc _
  have l0 := enc_len (n := kn) (by omega)
  have l1 := enc_len (n := x.boot) (by omega)
  have HE : Hid ((w.alloc (.cells cs 28)).heap[w.heap.size]? = some (.cells cs 28 (0, 0))) := heap_alloc_new w _
  have CELL : Hid (∀ wx : World, wx.heap[w.heap.size]? = some (.cells cs 28 (0, 0)) → wx.cell? ⟨w.heap.size, 1, none⟩ = some (.int .u32 x.boot) ∧ wx.cell? ⟨w.heap.size, 2, none⟩ = some (.int .u64 x.n)) := fun wx h => by
    rw [hcs] at h
    exact ⟨(Se.EnvAt.cell h).2.1, (Se.EnvAt.cell h).2.2.1⟩
  clear hE hcs hke HD hkn hkl hr hout h1 h2
  go_enter Tryd.func24, Tryd.ntmps24
  go_upto_region 1 with (fail)
  generalize w.alloc (.cells cs 28) = W1 at *
  have N0 := oNum_any_fr kn (by omega) ho1 (Nat.le_trans hB hb.size) (by omega)
  have s1 := Nat.le_trans hB hb.size
  clear ho1
  go_wp2_with fail
  refine N0.mono ?_
  rintro e w2 ⟨rfl, ho2, hb2, hf2⟩
  have e2 := hf2 _ _ _ _ HE.out (by decide) (by decide) (by decide)
  have s2 := Nat.le_trans s1 hb2.size
  have c1 := (CELL.out _ e2).1
  have N1 := oNum_any_fr x.boot (by omega) ho2 s2 (by rw [List.length_append]; omega)
  have HE2 := Lib.hid e2
  clear N0 ho2 e2 h0 HE
  go_wp2_with fail
  refine N1.mono ?_
  rintro e w3 ⟨rfl, ho3, hb3, hf3⟩
  have e3 := hf3 _ _ _ _ HE2.out (by decide) (by decide) (by decide)
  have c2 := (CELL.out _ e3).2
  have N2 := oNum_any_fr x.n (by omega) ho3 (Nat.le_trans s2 hb3.size) (by rw [List.length_append, List.length_append]; omega)
  clear N1 ho3 e3 HE2 c1
  go_wp2_with fail
  refine N2.mono ?_
  rintro e w4 ⟨rfl, ho4, hb4, hf4⟩
  go_wp2
  go_end0
  refine ⟨rfl, ?_, (hb.mono hB).trans (hb2.trans (hb3.trans hb4)), hf.trans (hf2.trans (hf3.trans hf4))⟩
  simpa [List.append_assoc] using ho4
end Go.Proofs.YtapogiihkbjppaaDoor
