/-
  The document's own batch: its bytes.
-/
import Derived.Test.YtlndggbidmmodaaR12Right
import Derived.Test.YtlndggbidmmodaaBaWrite
import Derived.Test.YtlndggbidmmodaaBaBackLaw
namespace Go.Proofs.Ytlndggbidmmodaa
open Go.RowKit Pk
namespace Ba
def KindAt (W : World) (M k : Nat) : Prop := W.heap[M]? = some (.cells #[.int .u8 (k : Int)] 5 (0, 0))
theorem kind_at (w : World) (x : Op) : KindAt (w.alloc (.cells #[.int .u8 (x.k : Int)] 5)) w.heap.size x.k := heap_alloc_new w _
theorem kind_keep {w w' : World} {M k : Nat} (h : KindAt w M k) (b : Below w.heap.size w w') : KindAt w' M k := (b.block M (Sm.lt_of h)).trans h
theorem kind_run {w : World} {M k : Nat} (h : KindAt w M k) (hk : k < 256) : (convert 71 9 (.slice (some ⟨M, 0, none⟩) 1 1)).run Try.prog w = .ok (.string ⟨#[UInt8.ofNat k]⟩) w := by
  have h2 := run_convert_bytes_back (P := Try.prog) w 71 9 5 ⟨M, 0, none⟩ 1 [UInt8.ofNat k] Try.underlying71 Try.underlying5 Try.underlying9 (fun j hj => by
    have hj0 : j = 0 := by simpa using hj
    subst hj0
    have := Sm.cells_of h 0 _ rfl
    simp only [List.getElem_cons_zero]
    rw [ofNat_toNat hk]
    exact this)
  exact h2
theorem txt_size (v : ByteArray) (hv : v.size ≤ 1048576) : (⟨(Rm.txt v.data.toList).toArray⟩ : ByteArray).size ≤ 1000010 + 1048576 := by
  have h := R12.enc_len (n := v.size) (by omega)
  rw [ba_mk_size, Rm.txt, List.length_append, ba_size]
  omega
theorem op_cat2 (h o : List UInt8) (k : UInt8) (p : List UInt8) : (⟨(h ++ o).toArray⟩ : ByteArray) ++ ⟨#[k]⟩ ++ ⟨p.toArray⟩ = ⟨(h ++ (o ++ k :: (p ++ []))).toArray⟩ := by
  rw [show (⟨#[k]⟩ : ByteArray) = ⟨[k].toArray⟩ from rfl, R12.ba_cat, R12.ba_cat]
  congr 2
  simp
theorem op_cat1 (h o : List UInt8) (k : UInt8) (p v : List UInt8) : (⟨(h ++ o).toArray⟩ : ByteArray) ++ ⟨#[k]⟩ ++ ⟨p.toArray⟩ ++ ⟨v.toArray⟩ = ⟨(h ++ (o ++ k :: (p ++ v))).toArray⟩ := by
  rw [show (⟨#[k]⟩ : ByteArray) = ⟨[k].toArray⟩ from rfl, R12.ba_cat, R12.ba_cat, R12.ba_cat]
  congr 2
  simp
end Ba
set_option maxRecDepth 100000 in
set_option maxHeartbeats 8000000 in
theorem r12Bytes_any {w : World} (b : Ba.Bt) {A : Option Addr} (c : Nat) (hit : Ba.listAt w A b.ops) (hok : b.Ok) (hs : Ba.smalls b.ops) :
    Calls Try.prog 17 #[.agg #[.int .i64 b.ix, .int .i64 b.ep, .slice A b.ops.length c]] w fun e w' => e = .returned (.tuple #[.string ⟨(Ba.spelled b).1.toArray⟩, .int .i64 ((Ba.spelled b).2 : Nat)]) ∧ Below w.heap.size w w' := by
  have gn := heap_alloc_new w (.cells #[.int .i64 b.ix, .int .i64 b.ep, .slice A b.ops.length c] 31)
  have b0 : Below w.heap.size w (w.alloc (.cells #[.int .i64 b.ix, .int .i64 b.ep, .slice A b.ops.length c] 31)) := (Below.refl _ w).alloc (Nat.le_refl _) _
  have RI := Lib.hid (r12Right_any (w := w.alloc (.cells #[.int .i64 b.ix, .int .i64 b.ep, .slice A b.ops.length c] 31)) b c (hit.below b0) hok (fun o ho => by have := (hs o ho).2.1; omega))
  have HRO : Hid (Ba.right b = 0 → (1 ≤ b.ix ∧ b.ix ≤ 4611686018427387904) ∧ 1 ≤ b.ep ∧ b.ops.length ≤ 4 ∧ ∀ o ∈ b.ops, Ba.bars o = 0) := Ba.right_ok
  have hep := hok.ep
  unfold Ba.spelled
  simp only
  have HBB : Hid (Ba.bytes b = enc b.ix.toNat ++ (enc b.ep.toNat ++ (enc b.ops.length ++ Ba.opsB b.ops))) := rfl
  obtain ⟨R, hR⟩ : ∃ R, R = Ba.right b := ⟨_, rfl⟩
  obtain ⟨BB, hBB⟩ : ∃ R, R = Ba.bytes b := ⟨_, rfl⟩
  rw [← hR] at RI HRO ⊢
  rw [← hBB] at HBB ⊢
  obtain ⟨ix, ep, l⟩ := b
  simp only at gn b0 RI HRO HBB hit hs hep ⊢
  have HIT : Hid (∀ wx : World, Below w.heap.size w wx → ∀ j (hj : j < l.length), ∃ b off, A = some ⟨b, off, none⟩ ∧ b < w.heap.size ∧ Ba.opAt wx b (off + j * 3) l[j]) := fun wx k j hj => hit.get k j hj
  have HS := Lib.hid hs
  obtain ⟨N, hN⟩ : ∃ N, N = w.heap.size := ⟨_, rfl⟩
  rw [← hN] at gn b0 HIT ⊢
  have HN := Lib.hid hN
  have x0 := Sm.cells_of gn 0 _ rfl
  have x1 := Sm.cells_of gn 1 _ rfl
  have x2 := Sm.cells_of gn 2 _ rfl
  have G1 := Lib.hid gn
  have B1 := Lib.hid b0
  have hlt1 : N < (w.alloc (.cells #[.int .i64 ix, .int .i64 ep, .slice A l.length c] 31)).heap.size := Sm.lt_of gn
  clear hit hok hs hR hBB hN gn b0
  by_cases hr : R = 0
  · rw [if_pos hr]
    obtain ⟨⟨hix1, hix2⟩, hep1, hl4, hbars⟩ := HRO.out hr
    have hri : ((R : Int) != 0) = false := by rw [hr]; rfl
    have HR0 := Lib.hid hr
    have hin : ix.toNat < 2 ^ 64 := by omega
    have hen : ep.toNat < 2 ^ 64 := by omega
    have hli : ((ix.toNat : Nat) : Int) = ix := by omega
    have hle : ((ep.toNat : Nat) : Int) = ep := by omega
    have hl1 := R12.enc_len hin
    have hl2 := R12.enc_len hen
    have hl3 := R12.enc_len (n := l.length) (by omega)
    have N1 : Hid (∀ wx : World, Calls Try.prog 39 #[.int .u64 ix] wx fun e w' => e = .returned (.string ⟨(enc ix.toNat).toArray⟩) ∧ Below wx.heap.size wx w') := fun wx => by have := r12Num_any ix.toNat hin wx; rw [hli] at this; exact this
    have N2 : Hid (∀ wx : World, Calls Try.prog 39 #[.int .u64 ep] wx fun e w' => e = .returned (.string ⟨(enc ep.toNat).toArray⟩) ∧ Below wx.heap.size wx w') := fun wx => by have := r12Num_any ep.toNat hen wx; rw [hle] at this; exact this
    have N3 : Hid (∀ wx : World, Calls Try.prog 39 #[.int .u64 (l.length : Int)] wx fun e w' => e = .returned (.string ⟨(enc l.length).toArray⟩) ∧ Below wx.heap.size wx w') := fun wx => r12Num_any l.length (by omega) wx
    obtain ⟨t1, ht1⟩ : ∃ z : ByteArray, z = ⟨(enc ix.toNat).toArray⟩ := ⟨_, rfl⟩
    obtain ⟨t2, ht2⟩ : ∃ z : ByteArray, z = ⟨(enc ep.toNat).toArray⟩ := ⟨_, rfl⟩
    obtain ⟨t3, ht3⟩ : ∃ z : ByteArray, z = ⟨(enc l.length).toArray⟩ := ⟨_, rfl⟩
    rw [← ht1] at N1
    rw [← ht2] at N2
    rw [← ht3] at N3
    have hz1 : t1.size ≤ 10 := by rw [ht1, Ba.ba_mk_size]; exact hl1
    have hz2 : t2.size ≤ 10 := by rw [ht2, Ba.ba_mk_size]; exact hl2
    have hz3 : t3.size ≤ 10 := by rw [ht3, Ba.ba_mk_size]; exact hl3
    have cat1 : ¬ 9223372036854775807 < t1.size + t2.size := by omega
    have cat2 : ¬ 9223372036854775807 < t1.size + t2.size + t3.size := by omega
    have wi : IntKind.u64.wrap ix = ix := by rw [IntKind.wrap_u64]; omega
    have we : IntKind.u64.wrap ep = ep := by rw [IntKind.wrap_u64]; omega
    have wl : IntKind.u64.wrap (l.length : Int) = (l.length : Int) := by rw [IntKind.wrap_u64]; omega
    have HHD : Hid ((t1 ++ t2) ++ t3 = ⟨(enc ix.toNat ++ enc ep.toNat ++ enc l.length).toArray⟩) := by show _ = _; rw [ht1, ht2, ht3, R12.ba_cat, R12.ba_cat]
    clear hr hbars HRO hli hle ht1 ht2 ht3
    go_enter Try.func17, Try.ntmps17
    go_upto_region 1 with (fail)
    rw [← HN.out]
    generalize w.alloc (.cells #[.int .i64 ix, .int .i64 ep, .slice A l.length c] 31) = W1 at *
    go_wp2_with fail
    refine (RI.out).mono ?_
    rintro e w2 ⟨rfl, k2⟩
    have G2 := Lib.hid ((k2.block N hlt1).trans G1.out)
    have B2 := Lib.hid (B1.out.trans (k2.mono (Nat.le_of_lt hlt1)))
    clear x0 x1 x2 k2 G1 B1 RI hlt1
    go_upto_region 4 with (fail)
    refine wp_region_held_drew (S := (fun w' => w'.heap[N]? = some (.cells #[.int .i64 ix, .int .i64 ep, .slice A l.length c] 31 (0, 0)))) (by kernel_rfl) (by exact G2.out) (fun hHeld => ?_)
    have S3 : Hid (Below N w w2.drew) := B2.out.drew
    have G3 : Hid (w2.drew.heap[N]? = some (.cells #[.int .i64 ix, .int .i64 ep, .slice A l.length c] 31 (0, 0))) := G2.out
    clear G2 B2
    generalize w2.drew = w3 at *
    refine wpAnyH_take (i := 0) (oi := ⟨some 12, _, _, _, _, _⟩) (v := .pointer (some ⟨N, 0, none⟩)) rfl (by kernel_rfl) (by kernel_rfl) (by kernel_rfl) (fun _ _ _ h => h) (Or.inl ⟨by rfl, ?_⟩) (by assumption) ?_
    · intro w hSw; (try dsimp only at hSw); go_simp
    simp only [Act.put, List.setIfInBounds_toArray, List.set_cons_zero, List.set_cons_succ]
    refine wpAnyH_take (i := 1) (oi := ⟨some 13, _, _, _, _, _⟩) (v := .int .i64 ix) rfl (by kernel_rfl) (by kernel_rfl) (by kernel_rfl) (fun _ _ _ h => h) (Or.inl ⟨by rfl, ?_⟩) (by assumption) ?_
    · intro w hSw; (try dsimp only at hSw); have s1 := Sm.cells_of hSw 0 _ rfl; go_simp
    simp only [Act.put, List.setIfInBounds_toArray, List.set_cons_zero, List.set_cons_succ]
    refine wpAnyH_take (i := 2) (oi := ⟨some 14, _, _, _, _, _⟩) (v := .int .u64 ix) rfl (by kernel_rfl) (by kernel_rfl) (by kernel_rfl) (fun _ _ _ h => h) (Or.inl ⟨by rfl, ?_⟩) (by assumption) ?_
    · intro w hSw; (try dsimp only at hSw); go_simp
    simp only [Act.put, List.setIfInBounds_toArray, List.set_cons_zero, List.set_cons_succ]
    refine wpAnyH_take (i := 4) (oi := ⟨some 16, _, _, _, _, _⟩) (v := .pointer (some ⟨N, 1, none⟩)) rfl (by kernel_rfl) (by kernel_rfl) (by kernel_rfl) (fun _ _ _ h => h) (Or.inl ⟨by rfl, ?_⟩) (by assumption) ?_
    · intro w hSw; (try dsimp only at hSw); go_simp
    simp only [Act.put, List.setIfInBounds_toArray, List.set_cons_zero, List.set_cons_succ]
    refine wpAnyH_take (i := 5) (oi := ⟨some 17, _, _, _, _, _⟩) (v := .int .i64 ep) rfl (by kernel_rfl) (by kernel_rfl) (by kernel_rfl) (fun _ _ _ h => h) (Or.inl ⟨by rfl, ?_⟩) (by assumption) ?_
    · intro w hSw; (try dsimp only at hSw); have s1 := Sm.cells_of hSw 1 _ rfl; go_simp
    simp only [Act.put, List.setIfInBounds_toArray, List.set_cons_zero, List.set_cons_succ]
    refine wpAnyH_take (i := 6) (oi := ⟨some 18, _, _, _, _, _⟩) (v := .int .u64 ep) rfl (by kernel_rfl) (by kernel_rfl) (by kernel_rfl) (fun _ _ _ h => h) (Or.inl ⟨by rfl, ?_⟩) (by assumption) ?_
    · intro w hSw; (try dsimp only at hSw); go_simp
    simp only [Act.put, List.setIfInBounds_toArray, List.set_cons_zero, List.set_cons_succ]
    refine wpAnyH_take (i := 9) (oi := ⟨some 21, _, _, _, _, _⟩) (v := .pointer (some ⟨N, 2, none⟩)) rfl (by kernel_rfl) (by kernel_rfl) (by kernel_rfl) (fun _ _ _ h => h) (Or.inl ⟨by rfl, ?_⟩) (by assumption) ?_
    · intro w hSw; (try dsimp only at hSw); go_simp
    simp only [Act.put, List.setIfInBounds_toArray, List.set_cons_zero, List.set_cons_succ]
    refine wpAnyH_take (i := 10) (oi := ⟨some 22, _, _, _, _, _⟩) (v := .slice A l.length c) rfl (by kernel_rfl) (by kernel_rfl) (by kernel_rfl) (fun _ _ _ h => h) (Or.inl ⟨by rfl, ?_⟩) (by assumption) ?_
    · intro w hSw; (try dsimp only at hSw); have s1 := Sm.cells_of hSw 2 _ rfl; go_simp
    simp only [Act.put, List.setIfInBounds_toArray, List.set_cons_zero, List.set_cons_succ]
    refine wpAnyH_take (i := 11) (oi := ⟨some 23, _, _, _, _, _⟩) (v := .int .i64 (l.length : Int)) rfl (by kernel_rfl) (by kernel_rfl) (by kernel_rfl) (fun _ _ _ h => h) (Or.inl ⟨by rfl, ?_⟩) (by assumption) ?_
    · intro w hSw; (try dsimp only at hSw); go_simp
    simp only [Act.put, List.setIfInBounds_toArray, List.set_cons_zero, List.set_cons_succ]
    refine wpAnyH_take (i := 12) (oi := ⟨some 24, _, _, _, _, _⟩) (v := .int .u64 (l.length : Int)) rfl (by kernel_rfl) (by kernel_rfl) (by kernel_rfl) (fun _ _ _ h => h) (Or.inl ⟨by rfl, ?_⟩) (by assumption) ?_
    · intro w hSw; (try dsimp only at hSw); go_simp
    simp only [Act.put, List.setIfInBounds_toArray, List.set_cons_zero, List.set_cons_succ]
    refine wpAnyH_ready (rs := [3]) (by kernel_rfl) (by simp) ?_
    refine (AllReadyH.cons (o := ⟨some 15, _, _, _, _, _⟩) rfl (fun K hK => ?_) AllReadyH.nil)
    go_simp
    refine (N1.out w3).mono ?_
    rintro e w4 ⟨rfl, hb⟩
    have G4 := Lib.hid ((hb.block N (Sm.lt_of G3.out)).trans G3.out)
    have S4 := Lib.hid (Ba.low_low HN.out S3.out hb)
    clear hb G3 S3
    refine hK.out _ _ G4.out (fun hHeld => ?_)
    clear hK K
    refine wpAnyH_ready (rs := [7]) (by kernel_rfl) (by simp) ?_
    refine (AllReadyH.cons (o := ⟨some 19, _, _, _, _, _⟩) rfl (fun K hK => ?_) AllReadyH.nil)
    go_simp
    refine (N2.out w4).mono ?_
    rintro e w5 ⟨rfl, hb⟩
    have G5 := Lib.hid ((hb.block N (Sm.lt_of G4.out)).trans G4.out)
    have S5 := Lib.hid (Ba.low_low HN.out S4.out hb)
    clear hb G4 S4
    refine hK.out _ _ G5.out (fun hHeld => ?_)
    clear hK K
    refine wpAnyH_take (i := 8) (oi := ⟨some 20, _, _, _, _, _⟩) (v := .string (t1 ++ t2)) rfl (by kernel_rfl) (by kernel_rfl) (by kernel_rfl) (fun _ _ _ h => h) (Or.inl ⟨by rfl, ?_⟩) (by assumption) ?_
    · intro w hSw; (try dsimp only at hSw); go_simp <;> omega
    simp only [Act.put, List.setIfInBounds_toArray, List.set_cons_zero, List.set_cons_succ]
    refine wpAnyH_ready (rs := [13]) (by kernel_rfl) (by simp) ?_
    refine (AllReadyH.cons (o := ⟨some 25, _, _, _, _, _⟩) rfl (fun K hK => ?_) AllReadyH.nil)
    go_simp
    refine (N3.out w5).mono ?_
    rintro e w6 ⟨rfl, hb⟩
    have G6 := Lib.hid ((hb.block N (Sm.lt_of G5.out)).trans G5.out)
    have S6 := Lib.hid (Ba.low_low HN.out S5.out hb)
    clear hb G5 S5
    refine hK.out _ _ G6.out (fun hHeld => ?_)
    clear hK K
    refine wpAnyH_take (i := 14) (oi := ⟨some 26, _, _, _, _, _⟩) (v := .string ((t1 ++ t2) ++ t3)) rfl (by kernel_rfl) (by kernel_rfl) (by kernel_rfl) (fun _ _ _ h => h) (Or.inl ⟨by rfl, ?_⟩) (by assumption) ?_
    · intro w hSw; (try dsimp only at hSw); go_simp <;> omega
    simp only [Act.put, List.setIfInBounds_toArray, List.set_cons_zero, List.set_cons_succ]
    refine wpAnyH_take (i := 15) (oi := ⟨some 5, _, _, _, _, _⟩) (v := .string ((t1 ++ t2) ++ t3)) rfl (by kernel_rfl) (by kernel_rfl) (by kernel_rfl) (fun _ _ _ h => h) (Or.inl ⟨by rfl, ?_⟩) (by assumption) ?_
    · intro w hSw; (try dsimp only at hSw); go_simp <;> omega
    simp only [Act.put, List.setIfInBounds_toArray, List.set_cons_zero, List.set_cons_succ]
    refine wpAnyH_done (by kernel_rfl) ?_ _
    clear N1 N2 N3 wi we wl cat1 cat2
    obtain ⟨hd, hhd⟩ : ∃ z : ByteArray, z = (t1 ++ t2) ++ t3 := ⟨_, rfl⟩
    rw [← hhd] at HHD ⊢
    clear hhd hz1 hz2 hz3
    obtain ⟨HL, hHL⟩ : ∃ z, z = enc ix.toNat ++ enc ep.toNat ++ enc l.length := ⟨_, rfl⟩
    have hHl : HL.length ≤ 30 := by rw [hHL]; simp only [List.length_append]; omega
    rw [← hHL] at HHD
    have HHL := Lib.hid hHL
    clear hHL hl1 hl2 hl3 hin hen
    go_upto_region 6 with (fail)
    go_loopw [5, 6] (fun v iv wr => ∃ (k : Nat) (acc : ByteArray), iv = .int .i64 k ∧ v = .string acc ∧ k ≤ l.length ∧ Hid (acc = ⟨(HL ++ Ba.opsB (l.take k)).toArray⟩) ∧ wr.heap[N]? = some (.cells #[.int .i64 ix, .int .i64 ep, .slice A l.length c] 31 (0, 0)) ∧ Below N w wr) (fun _ iv _ => l.length - (intOf iv).toNat)
    case atStart => exact ⟨0, hd, rfl, rfl, Nat.zero_le _, by show _ = _; rw [HHD.out]; simp [Ba.opsB], G6.out, S6.out⟩
    case round =>
      clear G6 S6
      obtain ⟨k, acc, rfl, rfl, hk, hacc, hg, hb⟩ := hrel
      have n2 := Sm.cells_of hg 2 _ rfl
      by_cases hlt : k < l.length
      · have hki : (k : Int) < (l.length : Int) := by omega
        have hsuc : IntKind.i64.wrap ((k : Int) + 1) = ((k + 1 : Nat) : Int) := by simp [IntKind.wrap, IntKind.bits, IntKind.signed]; omega
        obtain ⟨gb, off, rfl, hgl, hx1⟩ := HIT.out _ hb k hlt
        have hsm := HS.out _ (List.getElem_mem hlt)
        have htk := Ba.opsB_take hlt
        have hol : (Ba.opsB (l.take k)).length ≤ 2097200 * 4 := by
          have h1 := Ba.opsB_len (l := l.take k) (fun o ho => HS.out o (List.mem_of_mem_take ho))
          have h2 : (l.take k).length ≤ 4 := by rw [List.length_take]; omega
          omega
        obtain ⟨x, hx⟩ : ∃ x, x = l[k] := ⟨_, rfl⟩
        rw [← hx] at hx1 hsm htk
        obtain ⟨hkx, hpx, hvx⟩ := hsm
        have hasz : acc.size ≤ 100000000 := by rw [hacc.out, Ba.ba_mk_size, List.length_append]; omega
        have R1 := Lib.hid (⟨hg, hb⟩ : _ ∧ _)
        have X1 := Lib.hid hx1
        have HKX := Lib.hid hkx
        have HACC := Lib.hid hacc.out
        have HTK := Lib.hid htk
        obtain ⟨kb, hkb⟩ : ∃ z : ByteArray, z = ⟨#[UInt8.ofNat x.k]⟩ := ⟨_, rfl⟩
        obtain ⟨tp, htp⟩ : ∃ z : ByteArray, z = ⟨(Rm.txt x.p.data.toList).toArray⟩ := ⟨_, rfl⟩
        have KR : Hid (∀ W M, Ba.KindAt W M x.k → (convert 71 9 (.slice (some ⟨M, 0, none⟩) 1 1)).run Try.prog W = .ok (.string kb) W) := fun W M h => by rw [hkb]; exact Ba.kind_run h hkx
        have TP : Hid (∀ wx : World, Calls Try.prog 40 #[.string x.p] wx fun e w' => e = .returned (.string tp) ∧ Below wx.heap.size wx w') := fun wx => by rw [htp]; exact r12Text_any x.p (by omega) wx
        have hks : kb.size = 1 := by rw [hkb]; rfl
        have hts : tp.size ≤ 1000010 + 1048576 := by rw [htp]; exact Ba.txt_size x.p (by omega)
        have cat1 : ¬ 9223372036854775807 < acc.size + kb.size := by omega
        have cat2 : ¬ 9223372036854775807 < acc.size + kb.size + tp.size := by omega
        have HKB := Lib.hid hkb
        have HTP := Lib.hid htp
        clear hx hgl hx1 htk hacc hg hb hkb htp hol n2
        have n2 := Sm.cells_of R1.out.1 2 _ rfl
        go_upto_region 8 with (fail)
        clear n2
        refine wp_region_held_drew (S := (fun w' => (w'.heap[N]? = some (.cells #[.int .i64 ix, .int .i64 ep, .slice (some ⟨gb, off, none⟩) l.length c] 31 (0, 0))) ∧ (w'.cell? ⟨gb, off + k * 3, none⟩ = some (.int .u8 (x.k : Int)) ∧ w'.cell? ⟨gb, off + k * 3 + 1, none⟩ = some (.string x.p) ∧ w'.cell? ⟨gb, off + k * 3 + 2, none⟩ = some (.string x.v)))) (by kernel_rfl) ⟨R1.out.1, X1.out⟩ (fun hHeld => ?_)
        have R2 : Hid (wr.drew.heap[N]? = some (.cells #[.int .i64 ix, .int .i64 ep, .slice (some ⟨gb, off, none⟩) l.length c] 31 (0, 0)) ∧ Below N w wr.drew) := ⟨R1.out.1, R1.out.2.drew⟩
        have X2 : Hid (Ba.opAt wr.drew gb (off + k * 3) x) := X1.out
        clear R1 X1
        generalize wr.drew = w2 at *
        refine wpAnyH_take (i := 0) (oi := ⟨some 34, _, _, _, _, _⟩) (v := .string acc) rfl (by kernel_rfl) (by kernel_rfl) (by kernel_rfl) (fun _ _ _ h => h) (Or.inl ⟨by rfl, ?_⟩) (by assumption) ?_
        · intro w hSw; (try dsimp only at hSw); go_simp
        simp only [Act.put, List.setIfInBounds_toArray, List.set_cons_zero, List.set_cons_succ]
        refine wpAnyH_take (i := 1) (oi := ⟨some 35, _, _, _, _, _⟩) (v := .pointer (some ⟨N, 2, none⟩)) rfl (by kernel_rfl) (by kernel_rfl) (by kernel_rfl) (fun _ _ _ h => h) (Or.inl ⟨by rfl, ?_⟩) (by assumption) ?_
        · intro w hSw; (try dsimp only at hSw); go_simp
        simp only [Act.put, List.setIfInBounds_toArray, List.set_cons_zero, List.set_cons_succ]
        refine wpAnyH_take (i := 2) (oi := ⟨some 36, _, _, _, _, _⟩) (v := .slice (some ⟨gb, off, none⟩) l.length c) rfl (by kernel_rfl) (by kernel_rfl) (by kernel_rfl) (fun _ _ _ h => h) (Or.inl ⟨by rfl, ?_⟩) (by assumption) ?_
        · intro w hSw; (try dsimp only at hSw); have s1 := Sm.cells_of hSw.1 2 _ rfl; go_simp
        simp only [Act.put, List.setIfInBounds_toArray, List.set_cons_zero, List.set_cons_succ]
        refine wpAnyH_take (i := 3) (oi := ⟨some 37, _, _, _, _, _⟩) (v := .int .i64 (k : Int)) rfl (by kernel_rfl) (by kernel_rfl) (by kernel_rfl) (fun _ _ _ h => h) (Or.inl ⟨by rfl, ?_⟩) (by assumption) ?_
        · intro w hSw; (try dsimp only at hSw); go_simp
        simp only [Act.put, List.setIfInBounds_toArray, List.set_cons_zero, List.set_cons_succ]
        refine wpAnyH_take (i := 4) (oi := ⟨some 38, _, _, _, _, _⟩) (v := .pointer (some ⟨gb, off + k * 3, none⟩)) rfl (by kernel_rfl) (by kernel_rfl) (by kernel_rfl) (fun _ _ _ h => h) (Or.inl ⟨by rfl, ?_⟩) (by assumption) ?_
        · intro w hSw; (try dsimp only at hSw); go_simp
        simp only [Act.put, List.setIfInBounds_toArray, List.set_cons_zero, List.set_cons_succ]
        refine wpAnyH_take (i := 5) (oi := ⟨some 39, _, _, _, _, _⟩) (v := .pointer (some ⟨gb, off + k * 3, none⟩)) rfl (by kernel_rfl) (by kernel_rfl) (by kernel_rfl) (fun _ _ _ h => h) (Or.inl ⟨by rfl, ?_⟩) (by assumption) ?_
        · intro w hSw; (try dsimp only at hSw); go_simp
        simp only [Act.put, List.setIfInBounds_toArray, List.set_cons_zero, List.set_cons_succ]
        refine wpAnyH_take (i := 6) (oi := ⟨some 40, _, _, _, _, _⟩) (v := .int .u8 (x.k : Int)) rfl (by kernel_rfl) (by kernel_rfl) (by kernel_rfl) (fun _ _ _ h => h) (Or.inl ⟨by rfl, ?_⟩) (by assumption) ?_
        · intro w hSw; (try dsimp only at hSw); obtain ⟨q9, q0, q1, q2⟩ := hSw; go_simp
        simp only [Act.put, List.setIfInBounds_toArray, List.set_cons_zero, List.set_cons_succ]
        refine wpAnyH_take (i := 10) (oi := ⟨some 44, _, _, _, _, _⟩) (v := .pointer (some ⟨N, 2, none⟩)) rfl (by kernel_rfl) (by kernel_rfl) (by kernel_rfl) (fun _ _ _ h => h) (Or.inl ⟨by rfl, ?_⟩) (by assumption) ?_
        · intro w hSw; (try dsimp only at hSw); go_simp
        simp only [Act.put, List.setIfInBounds_toArray, List.set_cons_zero, List.set_cons_succ]
        refine wpAnyH_take (i := 11) (oi := ⟨some 45, _, _, _, _, _⟩) (v := .slice (some ⟨gb, off, none⟩) l.length c) rfl (by kernel_rfl) (by kernel_rfl) (by kernel_rfl) (fun _ _ _ h => h) (Or.inl ⟨by rfl, ?_⟩) (by assumption) ?_
        · intro w hSw; (try dsimp only at hSw); have s1 := Sm.cells_of hSw.1 2 _ rfl; go_simp
        simp only [Act.put, List.setIfInBounds_toArray, List.set_cons_zero, List.set_cons_succ]
        refine wpAnyH_take (i := 12) (oi := ⟨some 46, _, _, _, _, _⟩) (v := .int .i64 (k : Int)) rfl (by kernel_rfl) (by kernel_rfl) (by kernel_rfl) (fun _ _ _ h => h) (Or.inl ⟨by rfl, ?_⟩) (by assumption) ?_
        · intro w hSw; (try dsimp only at hSw); go_simp
        simp only [Act.put, List.setIfInBounds_toArray, List.set_cons_zero, List.set_cons_succ]
        refine wpAnyH_take (i := 13) (oi := ⟨some 47, _, _, _, _, _⟩) (v := .pointer (some ⟨gb, off + k * 3, none⟩)) rfl (by kernel_rfl) (by kernel_rfl) (by kernel_rfl) (fun _ _ _ h => h) (Or.inl ⟨by rfl, ?_⟩) (by assumption) ?_
        · intro w hSw; (try dsimp only at hSw); go_simp
        simp only [Act.put, List.setIfInBounds_toArray, List.set_cons_zero, List.set_cons_succ]
        refine wpAnyH_take (i := 14) (oi := ⟨some 48, _, _, _, _, _⟩) (v := .pointer (some ⟨gb, off + k * 3 + 1, none⟩)) rfl (by kernel_rfl) (by kernel_rfl) (by kernel_rfl) (fun _ _ _ h => h) (Or.inl ⟨by rfl, ?_⟩) (by assumption) ?_
        · intro w hSw; (try dsimp only at hSw); go_simp
        simp only [Act.put, List.setIfInBounds_toArray, List.set_cons_zero, List.set_cons_succ]
        refine wpAnyH_take (i := 15) (oi := ⟨some 49, _, _, _, _, _⟩) (v := .string x.p) rfl (by kernel_rfl) (by kernel_rfl) (by kernel_rfl) (fun _ _ _ h => h) (Or.inl ⟨by rfl, ?_⟩) (by assumption) ?_
        · intro w hSw; (try dsimp only at hSw); obtain ⟨q9, q0, q1, q2⟩ := hSw; go_simp
        simp only [Act.put, List.setIfInBounds_toArray, List.set_cons_zero, List.set_cons_succ]
        refine wpAnyH_ready (rs := [7, 16]) (by kernel_rfl) (by simp) ?_
        refine (AllReadyH.cons (o := ⟨some 41, _, _, _, _, _⟩) rfl (fun K hK => ?_) (AllReadyH.cons (o := ⟨some 50, _, _, _, _, _⟩) rfl (fun K hK => ?_) AllReadyH.nil))
        · go_simp
          have C3 := Lib.hid (Ba.kind_at w2 x)
          have hb : Below w2.heap.size w2 (w2.alloc (.cells #[.int .u8 (x.k : Int)] 5)) := (Below.refl _ w2).alloc (Nat.le_refl _) _
          have R3 := Lib.hid (⟨(hb.block N (Sm.lt_of R2.out.1)).trans R2.out.1, Ba.low_low HN.out R2.out.2 hb⟩ : _ ∧ _)
          have X3 := Lib.hid (X2.out.below hb (World.block_lt_of_cell? _ _ X2.out.1))
          generalize w2.alloc (.cells #[.int .u8 (x.k : Int)] 5) = w3 at *
          generalize w2.heap.size = M at *
          refine hK.out _ _ ⟨R3.out.1, X3.out⟩ (fun hHeld => ?_)
          clear hK K hb R2 X2
          refine wpAnyH_ready (rs := [8, 16]) (by kernel_rfl) (by simp) ?_
          refine (AllReadyH.cons (o := ⟨some 42, _, _, _, _, _⟩) rfl (fun K hK => ?_) (AllReadyH.cons (o := ⟨some 50, _, _, _, _, _⟩) rfl (fun K hK => ?_) AllReadyH.nil))
          · have CV := KR.out _ _ (C3.out)
            go_simp
            refine hK.out _ _ ⟨R3.out.1, X3.out⟩ (fun hHeld => ?_)
            clear hK K CV
            refine wpAnyH_take (i := 9) (oi := ⟨some 43, _, _, _, _, _⟩) (v := .string (acc ++ kb)) rfl (by kernel_rfl) (by kernel_rfl) (by kernel_rfl) (fun _ _ _ h => h) (Or.inl ⟨by rfl, ?_⟩) (by assumption) ?_
            · intro w hSw; (try dsimp only at hSw); go_simp <;> omega
            simp only [Act.put, List.setIfInBounds_toArray, List.set_cons_zero, List.set_cons_succ]
            refine wpAnyH_ready (rs := [16]) (by kernel_rfl) (by simp) ?_
            refine (AllReadyH.cons (o := ⟨some 50, _, _, _, _, _⟩) rfl (fun K hK => ?_) AllReadyH.nil)
            go_simp
            refine (TP.out w3).mono ?_
            rintro e w4 ⟨rfl, hb⟩
            have R4 := Lib.hid (⟨(hb.block N (Sm.lt_of R3.out.1)).trans R3.out.1, Ba.low_low HN.out R3.out.2 hb⟩ : _ ∧ _)
            have X4 := Lib.hid (X3.out.below hb (World.block_lt_of_cell? _ _ X3.out.1))
            have C4 := Lib.hid (Ba.kind_keep C3.out hb)
            clear C3
            refine hK.out _ _ ⟨R4.out.1, X4.out⟩ (fun hHeld => ?_)
            clear hK K hb R3 X3
            refine wpAnyH_take (i := 17) (oi := ⟨some 51, _, _, _, _, _⟩) (v := .string ((acc ++ kb) ++ tp)) rfl (by kernel_rfl) (by kernel_rfl) (by kernel_rfl) (fun _ _ _ h => h) (Or.inl ⟨by rfl, ?_⟩) (by assumption) ?_
            · intro w hSw; (try dsimp only at hSw); go_simp <;> omega
            simp only [Act.put, List.setIfInBounds_toArray, List.set_cons_zero, List.set_cons_succ]
            refine wpAnyH_take (i := 18) (oi := ⟨some 5, _, _, _, _, _⟩) (v := .string ((acc ++ kb) ++ tp)) rfl (by kernel_rfl) (by kernel_rfl) (by kernel_rfl) (fun _ _ _ h => h) (Or.inl ⟨by rfl, ?_⟩) (by assumption) ?_
            · intro w hSw; (try dsimp only at hSw); go_simp <;> omega
            simp only [Act.put, List.setIfInBounds_toArray, List.set_cons_zero, List.set_cons_succ]
            refine wpAnyH_done (by kernel_rfl) ?_ _
            generalize w4 = w8 at *
            have R8 := Lib.hid R4.out
            have X8 := Lib.hid X4.out
            clear R4 X4 C4
            have n2 := Sm.cells_of R8.out.1 2 _ rfl
            obtain ⟨a0, a1, a2⟩ := X8.out
            obtain ⟨ac2, hac2⟩ : ∃ z : ByteArray, z = (acc ++ kb) ++ tp := ⟨_, rfl⟩
            rw [← hac2]
            have hsz2 : ac2.size ≤ 1000000000 := by rw [hac2, ByteArray.size_append, ByteArray.size_append]; omega
            have HAC2 := Lib.hid hac2
            clear hac2 cat1 cat2
            by_cases hk1 : x.k = 1
            · have e1 : ((x.k : Int) == 1) = true := by rw [hk1]; rfl
              have HK1 := Lib.hid hk1
              clear hk1
              have TV := Lib.hid (r12Text_any x.v (by omega) w8)
              obtain ⟨tv, htv⟩ : ∃ z : ByteArray, z = ⟨(Rm.txt x.v.data.toList).toArray⟩ := ⟨_, rfl⟩
              rw [← htv] at TV
              have htvs : tv.size ≤ 1000010 + 1048576 := by rw [htv]; exact Ba.txt_size x.v (by omega)
              have cat3 : ¬ 9223372036854775807 < ac2.size + tv.size := by omega
              have HTV := Lib.hid htv
              clear htv
              go_wp2_with fail
              refine TV.out.mono ?_
              rintro e w9 ⟨rfl, hb⟩
              have R9 := Lib.hid (⟨(hb.block N (Sm.lt_of R8.out.1)).trans R8.out.1, Ba.low_low HN.out R8.out.2 hb⟩ : _ ∧ _)
              clear hb R8 X8 a0 a1 a2 n2 TV
              go_wp2_with fail
              go_roundw
              case rel => exact ⟨k + 1, _, rfl, rfl, hlt, by
                show _ = _
                rw [HTK.out, HAC2.out, HACC.out, HKB.out, HTP.out, HTV.out, Ba.opB, if_pos HK1.out]
                exact Ba.op_cat1 _ _ _ _ _, R9.out⟩
              case measure => simp [intOf]; omega
            · have e1 : ((x.k : Int) == 1) = false := by rw [beq_eq_false_iff_ne]; omega
              have HK1 := Lib.hid hk1
              clear hk1 X8
              go_wp2_with fail
              go_roundw
              case rel => exact ⟨k + 1, _, rfl, rfl, hlt, by
                show _ = _
                rw [HTK.out, HAC2.out, HACC.out, HKB.out, HTP.out, Ba.opB, if_neg HK1.out]
                exact Ba.op_cat2 _ _ _ _, R8.out⟩
              case measure => simp [intOf]; omega
          · go_simp
            refine (TP.out w3).mono ?_
            rintro e w4 ⟨rfl, hb⟩
            have R4 := Lib.hid (⟨(hb.block N (Sm.lt_of R3.out.1)).trans R3.out.1, Ba.low_low HN.out R3.out.2 hb⟩ : _ ∧ _)
            have X4 := Lib.hid (X3.out.below hb (World.block_lt_of_cell? _ _ X3.out.1))
            have C4 := Lib.hid (Ba.kind_keep C3.out hb)
            clear C3
            refine hK.out _ _ ⟨R4.out.1, X4.out⟩ (fun hHeld => ?_)
            clear hK K hb R3 X3
            refine wpAnyH_ready (rs := [8]) (by kernel_rfl) (by simp) ?_
            refine (AllReadyH.cons (o := ⟨some 42, _, _, _, _, _⟩) rfl (fun K hK => ?_) AllReadyH.nil)
            have CV := KR.out _ _ (C4.out)
            go_simp
            refine hK.out _ _ ⟨R4.out.1, X4.out⟩ (fun hHeld => ?_)
            clear hK K CV
            refine wpAnyH_take (i := 9) (oi := ⟨some 43, _, _, _, _, _⟩) (v := .string (acc ++ kb)) rfl (by kernel_rfl) (by kernel_rfl) (by kernel_rfl) (fun _ _ _ h => h) (Or.inl ⟨by rfl, ?_⟩) (by assumption) ?_
            · intro w hSw; (try dsimp only at hSw); go_simp <;> omega
            simp only [Act.put, List.setIfInBounds_toArray, List.set_cons_zero, List.set_cons_succ]
            refine wpAnyH_take (i := 17) (oi := ⟨some 51, _, _, _, _, _⟩) (v := .string ((acc ++ kb) ++ tp)) rfl (by kernel_rfl) (by kernel_rfl) (by kernel_rfl) (fun _ _ _ h => h) (Or.inl ⟨by rfl, ?_⟩) (by assumption) ?_
            · intro w hSw; (try dsimp only at hSw); go_simp <;> omega
            simp only [Act.put, List.setIfInBounds_toArray, List.set_cons_zero, List.set_cons_succ]
            refine wpAnyH_take (i := 18) (oi := ⟨some 5, _, _, _, _, _⟩) (v := .string ((acc ++ kb) ++ tp)) rfl (by kernel_rfl) (by kernel_rfl) (by kernel_rfl) (fun _ _ _ h => h) (Or.inl ⟨by rfl, ?_⟩) (by assumption) ?_
            · intro w hSw; (try dsimp only at hSw); go_simp <;> omega
            simp only [Act.put, List.setIfInBounds_toArray, List.set_cons_zero, List.set_cons_succ]
            refine wpAnyH_done (by kernel_rfl) ?_ _
            generalize w4 = w8 at *
            have R8 := Lib.hid R4.out
            have X8 := Lib.hid X4.out
            clear R4 X4 C4
            have n2 := Sm.cells_of R8.out.1 2 _ rfl
            obtain ⟨a0, a1, a2⟩ := X8.out
            obtain ⟨ac2, hac2⟩ : ∃ z : ByteArray, z = (acc ++ kb) ++ tp := ⟨_, rfl⟩
            rw [← hac2]
            have hsz2 : ac2.size ≤ 1000000000 := by rw [hac2, ByteArray.size_append, ByteArray.size_append]; omega
            have HAC2 := Lib.hid hac2
            clear hac2 cat1 cat2
            by_cases hk1 : x.k = 1
            · have e1 : ((x.k : Int) == 1) = true := by rw [hk1]; rfl
              have HK1 := Lib.hid hk1
              clear hk1
              have TV := Lib.hid (r12Text_any x.v (by omega) w8)
              obtain ⟨tv, htv⟩ : ∃ z : ByteArray, z = ⟨(Rm.txt x.v.data.toList).toArray⟩ := ⟨_, rfl⟩
              rw [← htv] at TV
              have htvs : tv.size ≤ 1000010 + 1048576 := by rw [htv]; exact Ba.txt_size x.v (by omega)
              have cat3 : ¬ 9223372036854775807 < ac2.size + tv.size := by omega
              have HTV := Lib.hid htv
              clear htv
              go_wp2_with fail
              refine TV.out.mono ?_
              rintro e w9 ⟨rfl, hb⟩
              have R9 := Lib.hid (⟨(hb.block N (Sm.lt_of R8.out.1)).trans R8.out.1, Ba.low_low HN.out R8.out.2 hb⟩ : _ ∧ _)
              clear hb R8 X8 a0 a1 a2 n2 TV
              go_wp2_with fail
              go_roundw
              case rel => exact ⟨k + 1, _, rfl, rfl, hlt, by
                show _ = _
                rw [HTK.out, HAC2.out, HACC.out, HKB.out, HTP.out, HTV.out, Ba.opB, if_pos HK1.out]
                exact Ba.op_cat1 _ _ _ _ _, R9.out⟩
              case measure => simp [intOf]; omega
            · have e1 : ((x.k : Int) == 1) = false := by rw [beq_eq_false_iff_ne]; omega
              have HK1 := Lib.hid hk1
              clear hk1 X8
              go_wp2_with fail
              go_roundw
              case rel => exact ⟨k + 1, _, rfl, rfl, hlt, by
                show _ = _
                rw [HTK.out, HAC2.out, HACC.out, HKB.out, HTP.out, Ba.opB, if_neg HK1.out]
                exact Ba.op_cat2 _ _ _ _, R8.out⟩
              case measure => simp [intOf]; omega
        · go_simp
          refine (TP.out w2).mono ?_
          rintro e w3 ⟨rfl, hb⟩
          have R3 := Lib.hid (⟨(hb.block N (Sm.lt_of R2.out.1)).trans R2.out.1, Ba.low_low HN.out R2.out.2 hb⟩ : _ ∧ _)
          have X3 := Lib.hid (X2.out.below hb (World.block_lt_of_cell? _ _ X2.out.1))
          have C3 : Hid True := trivial
          refine hK.out _ _ ⟨R3.out.1, X3.out⟩ (fun hHeld => ?_)
          clear hK K hb R2 X2
          refine wpAnyH_ready (rs := [7]) (by kernel_rfl) (by simp) ?_
          refine (AllReadyH.cons (o := ⟨some 41, _, _, _, _, _⟩) rfl (fun K hK => ?_) AllReadyH.nil)
          go_simp
          have C4 := Lib.hid (Ba.kind_at w3 x)
          have hb : Below w3.heap.size w3 (w3.alloc (.cells #[.int .u8 (x.k : Int)] 5)) := (Below.refl _ w3).alloc (Nat.le_refl _) _
          have R4 := Lib.hid (⟨(hb.block N (Sm.lt_of R3.out.1)).trans R3.out.1, Ba.low_low HN.out R3.out.2 hb⟩ : _ ∧ _)
          have X4 := Lib.hid (X3.out.below hb (World.block_lt_of_cell? _ _ X3.out.1))
          generalize w3.alloc (.cells #[.int .u8 (x.k : Int)] 5) = w4 at *
          generalize w3.heap.size = M at *
          refine hK.out _ _ ⟨R4.out.1, X4.out⟩ (fun hHeld => ?_)
          clear hK K hb R3 X3
          refine wpAnyH_ready (rs := [8]) (by kernel_rfl) (by simp) ?_
          refine (AllReadyH.cons (o := ⟨some 42, _, _, _, _, _⟩) rfl (fun K hK => ?_) AllReadyH.nil)
          have CV := KR.out _ _ (C4.out)
          go_simp
          refine hK.out _ _ ⟨R4.out.1, X4.out⟩ (fun hHeld => ?_)
          clear hK K CV
          refine wpAnyH_take (i := 9) (oi := ⟨some 43, _, _, _, _, _⟩) (v := .string (acc ++ kb)) rfl (by kernel_rfl) (by kernel_rfl) (by kernel_rfl) (fun _ _ _ h => h) (Or.inl ⟨by rfl, ?_⟩) (by assumption) ?_
          · intro w hSw; (try dsimp only at hSw); go_simp <;> omega
          simp only [Act.put, List.setIfInBounds_toArray, List.set_cons_zero, List.set_cons_succ]
          refine wpAnyH_take (i := 17) (oi := ⟨some 51, _, _, _, _, _⟩) (v := .string ((acc ++ kb) ++ tp)) rfl (by kernel_rfl) (by kernel_rfl) (by kernel_rfl) (fun _ _ _ h => h) (Or.inl ⟨by rfl, ?_⟩) (by assumption) ?_
          · intro w hSw; (try dsimp only at hSw); go_simp <;> omega
          simp only [Act.put, List.setIfInBounds_toArray, List.set_cons_zero, List.set_cons_succ]
          refine wpAnyH_take (i := 18) (oi := ⟨some 5, _, _, _, _, _⟩) (v := .string ((acc ++ kb) ++ tp)) rfl (by kernel_rfl) (by kernel_rfl) (by kernel_rfl) (fun _ _ _ h => h) (Or.inl ⟨by rfl, ?_⟩) (by assumption) ?_
          · intro w hSw; (try dsimp only at hSw); go_simp <;> omega
          simp only [Act.put, List.setIfInBounds_toArray, List.set_cons_zero, List.set_cons_succ]
          refine wpAnyH_done (by kernel_rfl) ?_ _
          generalize w4 = w8 at *
          have R8 := Lib.hid R4.out
          have X8 := Lib.hid X4.out
          clear R4 X4 C4
          have n2 := Sm.cells_of R8.out.1 2 _ rfl
          obtain ⟨a0, a1, a2⟩ := X8.out
          obtain ⟨ac2, hac2⟩ : ∃ z : ByteArray, z = (acc ++ kb) ++ tp := ⟨_, rfl⟩
          rw [← hac2]
          have hsz2 : ac2.size ≤ 1000000000 := by rw [hac2, ByteArray.size_append, ByteArray.size_append]; omega
          have HAC2 := Lib.hid hac2
          clear hac2 cat1 cat2
          by_cases hk1 : x.k = 1
          · have e1 : ((x.k : Int) == 1) = true := by rw [hk1]; rfl
            have HK1 := Lib.hid hk1
            clear hk1
            have TV := Lib.hid (r12Text_any x.v (by omega) w8)
            obtain ⟨tv, htv⟩ : ∃ z : ByteArray, z = ⟨(Rm.txt x.v.data.toList).toArray⟩ := ⟨_, rfl⟩
            rw [← htv] at TV
            have htvs : tv.size ≤ 1000010 + 1048576 := by rw [htv]; exact Ba.txt_size x.v (by omega)
            have cat3 : ¬ 9223372036854775807 < ac2.size + tv.size := by omega
            have HTV := Lib.hid htv
            clear htv
            go_wp2_with fail
            refine TV.out.mono ?_
            rintro e w9 ⟨rfl, hb⟩
            have R9 := Lib.hid (⟨(hb.block N (Sm.lt_of R8.out.1)).trans R8.out.1, Ba.low_low HN.out R8.out.2 hb⟩ : _ ∧ _)
            clear hb R8 X8 a0 a1 a2 n2 TV
            go_wp2_with fail
            go_roundw
            case rel => exact ⟨k + 1, _, rfl, rfl, hlt, by
              show _ = _
              rw [HTK.out, HAC2.out, HACC.out, HKB.out, HTP.out, HTV.out, Ba.opB, if_pos HK1.out]
              exact Ba.op_cat1 _ _ _ _ _, R9.out⟩
            case measure => simp [intOf]; omega
          · have e1 : ((x.k : Int) == 1) = false := by rw [beq_eq_false_iff_ne]; omega
            have HK1 := Lib.hid hk1
            clear hk1 X8
            go_wp2_with fail
            go_roundw
            case rel => exact ⟨k + 1, _, rfl, rfl, hlt, by
              show _ = _
              rw [HTK.out, HAC2.out, HACC.out, HKB.out, HTP.out, Ba.opB, if_neg HK1.out]
              exact Ba.op_cat2 _ _ _ _, R8.out⟩
            case measure => simp [intOf]; omega
      · have hki : ¬ (k : Int) < (l.length : Int) := by omega
        have hkl : k = l.length := by omega
        have h2 := hacc.out
        rw [hkl, List.take_length] at h2
        have H2 := Lib.hid h2
        have B9 := Lib.hid hb
        clear h2 hkl hacc hg hb
        go_wp2_with fail
        go_ret2
        refine ⟨?_, B9.out⟩
        rw [H2.out, HBB.out, HHL.out, HR0.out]
        simp only [List.append_assoc]
        rfl
  · rw [if_neg hr]
    have hri : ((R : Int) != 0) = true := by rw [bne_iff_ne]; omega
    clear hr
    go_enter Try.func17, Try.ntmps17
    go_upto_region 1 with (fail)
    rw [← HN.out]
    generalize w.alloc (.cells #[.int .i64 ix, .int .i64 ep, .slice A l.length c] 31) = W1 at *
    go_wp2_with fail
    refine (RI.out).mono ?_
    rintro e w2 ⟨rfl, k2⟩
    go_wp2
    go_ret2
    exact ⟨rfl, B1.out.trans (k2.mono (Nat.le_of_lt hlt1))⟩
end Go.Proofs.Ytlndggbidmmodaa
