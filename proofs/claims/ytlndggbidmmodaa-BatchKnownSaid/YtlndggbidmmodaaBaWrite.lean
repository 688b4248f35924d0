/-
  batch's write and Bytes.
-/
import Derived.Test.YtlndggbidmmodaaOut2
import Derived.Test.YtlndggbidmmodaaBaRight
namespace Go.Proofs.Ytlndggbidmmodaa
open Go.RowKit Pk
set_option maxRecDepth 100000 in
set_option maxHeartbeats 2000000 in
theorem baWrite_any {w : World} {B o : Nat} {bs : List UInt8} (x : Ba.Op) (hk : x.k < 256) (hout : outAt w B o bs) (hB : B ≤ w.heap.size) (hroom : bs.length + 100 + x.p.size + x.v.size ≤ 140737488355328) :
    Calls Try.prog 36 #[.pointer (some ⟨o, 0, none⟩), .agg #[.int .u8 (x.k : Int), .string x.p, .string x.v]] w fun e w' => e = .returned (.tuple #[]) ∧ outAt w' B o (bs ++ Ba.opB x) ∧ Below B w w' ∧ Fr w w' := by
  have gn := heap_alloc_new w (.cells #[.int .u8 (x.k : Int), .string x.p, .string x.v] 37)
  have b0 : Below w.heap.size w (w.alloc (.cells #[.int .u8 (x.k : Int), .string x.p, .string x.v] 37)) := (Below.refl _ w).alloc (Nat.le_refl _) _
  have O1 := Lib.hid (hout.kept b0)
  have B1 := Lib.hid (b0.mono hB)
  have F1 : Hid (Fr w (w.alloc (.cells #[.int .u8 (x.k : Int), .string x.p, .string x.v] 37))) := (Fr.refl w).alloc _
  have hB1 : B ≤ (w.alloc (.cells #[.int .u8 (x.k : Int), .string x.p, .string x.v] 37)).heap.size := Nat.le_trans hB b0.size
  have HKB : Hid ((x.k : Int) = (UInt8.ofNat x.k).toNat) := by show _ = _; rw [ofNat_toNat hk]
  obtain ⟨N, hN⟩ : ∃ N, N = w.heap.size := ⟨_, rfl⟩
  rw [← hN] at gn
  have HN := Lib.hid hN
  have G1 := Lib.hid gn
  have x00 := Sm.cells_of gn 0 _ rfl
  clear gn b0 hN hout
  by_cases hk1 : x.k = 1
  · have HK1 := Lib.hid hk1
    have e1 : ((x.k : Int) == 1) = true := by rw [hk1]; rfl
    clear hk1
    go_enter Try.func36, Try.ntmps36
    go_upto_region 1 with (fail)
    rw [← HN.out]
    generalize w.alloc (.cells #[.int .u8 (x.k : Int), .string x.p, .string x.v] 37) = W1 at *
    go_wp2_with fail
    refine (oByte_any_fr (x.k : Int) (UInt8.ofNat x.k) HKB.out O1.out hB1 (by omega)).mono ?_
    rintro e w2 ⟨rfl, o2, b2, f2⟩
    have g2 := f2 _ _ _ _ G1.out (by decide) (by decide) (by decide)
    have x1 := Sm.cells_of g2 1 _ rfl
    have hB2 : B ≤ w2.heap.size := Nat.le_trans hB1 b2.size
    go_wp2_with fail
    refine (oText_any_fr x.p o2 hB2 (by rw [List.length_append]; simp only [List.length_cons, List.length_nil]; omega)).mono ?_
    rintro e w3 ⟨rfl, o3, b3, f3⟩
    have g3 := f3 _ _ _ _ g2 (by decide) (by decide) (by decide)
    have x0 := Sm.cells_of g3 0 _ rfl
    have x2 := Sm.cells_of g3 2 _ rfl
    have hB3 : B ≤ w3.heap.size := Nat.le_trans hB2 b3.size
    have hl3 : (bs ++ [UInt8.ofNat x.k] ++ (enc x.p.size ++ x.p.data.toList)).length + 10 + x.v.size ≤ 140737488355328 := by
      have h1 := R12.enc_len (n := x.p.size) (by omega)
      have h2 := Ba.ba_size x.p
      simp only [List.length_append, List.length_cons, List.length_nil]
      omega
    go_wp2_with fail
    refine (oText_any_fr x.v o3 hB3 hl3).mono ?_
    rintro e w4 ⟨rfl, o4, b4, f4⟩
    have O4 := Lib.hid o4
    have B4 := Lib.hid (B1.out.trans (b2.trans (b3.trans b4)))
    have F4 := Lib.hid (F1.out.trans (f2.trans (f3.trans f4)))
    clear x0 x1 x2 g2 g3 o2 o3 o4 f2 f3 f4 b2 b3 b4 hl3
    go_wp2
    go_end0
    refine ⟨rfl, ?_, B4.out, F4.out⟩
    have e : bs ++ [UInt8.ofNat x.k] ++ (enc x.p.size ++ x.p.data.toList) ++ (enc x.v.size ++ x.v.data.toList) = bs ++ Ba.opB x := by
      unfold Ba.opB Rm.txt
      rw [if_pos HK1.out, Ba.ba_size, Ba.ba_size]
      simp
    rw [← e]
    exact O4.out
  · have HK1 := Lib.hid hk1
    have e1 : ((x.k : Int) == 1) = false := by rw [beq_eq_false_iff_ne]; omega
    clear hk1
    go_enter Try.func36, Try.ntmps36
    go_upto_region 1 with (fail)
    rw [← HN.out]
    generalize w.alloc (.cells #[.int .u8 (x.k : Int), .string x.p, .string x.v] 37) = W1 at *
    go_wp2_with fail
    refine (oByte_any_fr (x.k : Int) (UInt8.ofNat x.k) HKB.out O1.out hB1 (by omega)).mono ?_
    rintro e w2 ⟨rfl, o2, b2, f2⟩
    have g2 := f2 _ _ _ _ G1.out (by decide) (by decide) (by decide)
    have x1 := Sm.cells_of g2 1 _ rfl
    have hB2 : B ≤ w2.heap.size := Nat.le_trans hB1 b2.size
    go_wp2_with fail
    refine (oText_any_fr x.p o2 hB2 (by rw [List.length_append]; simp only [List.length_cons, List.length_nil]; omega)).mono ?_
    rintro e w3 ⟨rfl, o3, b3, f3⟩
    have g3 := f3 _ _ _ _ g2 (by decide) (by decide) (by decide)
    have x0 := Sm.cells_of g3 0 _ rfl
    have O4 := Lib.hid o3
    have B4 := Lib.hid (B1.out.trans (b2.trans b3))
    have F4 := Lib.hid (F1.out.trans (f2.trans f3))
    clear x1 g2 g3 o2 o3 f2 f3 b2 b3
    go_wp2
    go_end0
    refine ⟨rfl, ?_, B4.out, F4.out⟩
    have e : bs ++ [UInt8.ofNat x.k] ++ (enc x.p.size ++ x.p.data.toList) = bs ++ Ba.opB x := by
      unfold Ba.opB Rm.txt
      rw [if_neg HK1.out, Ba.ba_size]
      simp
    rw [← e]
    exact O4.out
namespace Ba
/-- What Bytes answers. -/
def spelled (b : Bt) : List UInt8 × Nat := (if right b = 0 then bytes b else [], right b)
def smalls (l : List Op) : Prop := ∀ o ∈ l, o.k < 256 ∧ o.p.size ≤ 1048576 ∧ o.v.size ≤ 1048576
theorem opB_len {o : Op} (hp : o.p.size ≤ 1048576) (hv : o.v.size ≤ 1048576) : (opB o).length ≤ 2097200 := by
  have h1 := R12.enc_len (n := o.p.size) (by omega)
  have h2 := R12.enc_len (n := o.v.size) (by omega)
  unfold opB Rm.txt
  split <;> simp only [List.length_cons, List.length_append, ba_size, List.length_nil] <;> omega
theorem opsB_len {l : List Op} (h : smalls l) : (opsB l).length ≤ 2097200 * l.length := by
  induction l with
  | nil => simp [opsB]
  | cons o r ih =>
    have h1 := opB_len (h o (by simp)).2.1 (h o (by simp)).2.2
    have h2 := ih fun x hx => h x (by simp [hx])
    rw [opsB, List.length_append, List.length_cons]
    omega
theorem opsB_take {l : List Op} {k : Nat} (hk : k < l.length) : opsB (l.take (k + 1)) = opsB (l.take k) ++ opB l[k] := by
  have e : l.take (k + 1) = l.take k ++ [l[k]] := by simp
  rw [e]
  generalize l.take k = m
  induction m with
  | nil => simp [opsB]
  | cons a r ih => rw [List.cons_append, opsB, opsB, ih, List.append_assoc]
/-- Where Bytes stands: the batch in block N, the Out in block o with these bytes. -/
structure Wr (w W : World) (N o : Nat) (ix ep : Int) (A : Option Addr) (c : Nat) (l : List Op) (bs : List UInt8) : Prop where
  box : W.heap[N]? = some (.cells #[.int .i64 ix, .int .i64 ep, .slice A l.length c] 31 (0, 0))
  out : outAt W N o bs
  bel : Below N w W
  low : N ≤ W.heap.size
theorem Wr.next {w W W' : World} {N o : Nat} {ix ep : Int} {A : Option Addr} {c : Nat} {l : List Op} {bs bs' : List UInt8} (h : Wr w W N o ix ep A c l bs) (ho : outAt W' N o bs') (b : Below N W W') (f : Fr W W') : Wr w W' N o ix ep A c l bs' :=
  ⟨f _ _ _ _ h.box (by decide) (by decide) (by decide), ho, h.bel.trans b, Nat.le_trans h.low b.size⟩
theorem Wr.alloc {w W : World} {N o : Nat} {ix ep : Int} {A : Option Addr} {c : Nat} {l : List Op} {bs : List UInt8} (h : Wr w W N o ix ep A c l bs) (x : Obj) : Wr w (W.alloc x) N o ix ep A c l bs :=
  ⟨(Below.heap_alloc _ _ _ (Sm.lt_of h.box)).trans h.box, h.out.kept ((Below.refl _ W).alloc (Nat.le_refl _) _), h.bel.alloc h.low _, Nat.le_trans h.low (by simp)⟩
end Ba
set_option maxRecDepth 100000 in
set_option maxHeartbeats 4000000 in
theorem baBytes_any {w : World} (b : Ba.Bt) {A : Option Addr} (c : Nat) (hit : Ba.listAt w A b.ops) (hok : b.Ok) (hs : Ba.smalls b.ops) :
    Calls Try.prog 16 #[.agg #[.int .i64 b.ix, .int .i64 b.ep, .slice A b.ops.length c]] w fun e w' => e = .returned (.tuple #[.string ⟨(Ba.spelled b).1.toArray⟩, .int .i64 ((Ba.spelled b).2 : Nat)]) ∧ Below w.heap.size w w' := by
  have gn := heap_alloc_new w (.cells #[.int .i64 b.ix, .int .i64 b.ep, .slice A b.ops.length c] 31)
  have b0 : Below w.heap.size w (w.alloc (.cells #[.int .i64 b.ix, .int .i64 b.ep, .slice A b.ops.length c] 31)) := (Below.refl _ w).alloc (Nat.le_refl _) _
  have RI := Lib.hid (baRight_any (w := w.alloc (.cells #[.int .i64 b.ix, .int .i64 b.ep, .slice A b.ops.length c] 31)) b c (hit.below b0) hok (fun o ho => by have := (hs o ho).2.1; omega))
  have HRO : Hid (Ba.right b = 0 → (1 ≤ b.ix ∧ b.ix ≤ 4611686018427387904) ∧ 1 ≤ b.ep ∧ b.ops.length ≤ 4 ∧ ∀ o ∈ b.ops, Ba.bars o = 0) := Ba.right_ok
  have hep := hok.ep
  unfold Ba.spelled
  simp only
  have HBB : Hid (Ba.bytes b = enc b.ix.toNat ++ (enc b.ep.toNat ++ (enc b.ops.length ++ Ba.opsB b.ops))) := rfl
  obtain ⟨R, hR⟩ : ∃ R, R = Ba.right b := ⟨_, rfl⟩
  obtain ⟨BB, hBB⟩ : ∃ R, R = Ba.bytes b := ⟨_, rfl⟩
  rw [← hR] at RI HRO ⊢
  rw [← hBB] at HBB ⊢
  obtain ⟨ix, ep, l⟩ := b
  simp only at gn b0 RI HRO HBB hit hs hep ⊢
  have HIT : Hid (∀ wx : World, Below w.heap.size w wx → ∀ j (hj : j < l.length), ∃ b off, A = some ⟨b, off, none⟩ ∧ b < w.heap.size ∧ Ba.opAt wx b (off + j * 3) l[j]) := fun wx k j hj => hit.get k j hj
  have HS := Lib.hid hs
  obtain ⟨N, hN⟩ : ∃ N, N = w.heap.size := ⟨_, rfl⟩
  rw [← hN] at gn b0 HIT ⊢
  have HN := Lib.hid hN
  have x0 := Sm.cells_of gn 0 _ rfl
  have x1 := Sm.cells_of gn 1 _ rfl
  have x2 := Sm.cells_of gn 2 _ rfl
  have G1 := Lib.hid gn
  have B1 := Lib.hid b0
  have hlt1 : N < (w.alloc (.cells #[.int .i64 ix, .int .i64 ep, .slice A l.length c] 31)).heap.size := Sm.lt_of gn
  clear hit hok hs hR hBB hN gn b0
  by_cases hr : R = 0
  · rw [if_pos hr]
    obtain ⟨⟨hix1, hix2⟩, hep1, hl4, hbars⟩ := HRO.out hr
    have hri : ((R : Int) != 0) = false := by rw [hr]; rfl
    have HR0 := Lib.hid hr
    have HBA := Lib.hid hbars
    have wi : IntKind.u64.wrap ix = ((ix.toNat : Nat) : Int) := by rw [IntKind.wrap_u64]; omega
    have we : IntKind.u64.wrap ep = ((ep.toNat : Nat) : Int) := by rw [IntKind.wrap_u64]; omega
    have hin : ix.toNat < 2 ^ 64 := by omega
    have hen : ep.toNat < 2 ^ 64 := by omega
    have hli : ((ix.toNat : Nat) : Int) = ix := by omega
    have hle : ((ep.toNat : Nat) : Int) = ep := by omega
    have hl1 := R12.enc_len hin
    have hl2 := R12.enc_len hen
    have hl3 := R12.enc_len (n := l.length) (by omega)
    have HWI := Lib.hid hli
    have HWE := Lib.hid hle
    clear hr hbars HRO wi we hli hle
    go_enter Try.func16, Try.ntmps16
    go_upto_region 1 with (fail)
    rw [← HN.out]
    generalize w.alloc (.cells #[.int .i64 ix, .int .i64 ep, .slice A l.length c] 31) = W1 at *
    go_wp2_with fail
    refine (RI.out).mono ?_
    rintro e w2 ⟨rfl, k2⟩
    have g2 := (k2.block N hlt1).trans G1.out
    have b2 := B1.out.trans (k2.mono (Nat.le_of_lt hlt1))
    have s2 := k2.size
    have ho3 : outAt (w2.alloc (.cells #[.pointer none, .int .i64 0] 64)) N w2.heap.size [] := ⟨by omega, .inl ⟨heap_alloc_new w2 _, rfl⟩⟩
    have S3 : Hid (Ba.Wr w (w2.alloc (.cells #[.pointer none, .int .i64 0] 64)) N w2.heap.size ix ep A c l []) := ⟨(Below.heap_alloc _ _ _ (Sm.lt_of g2)).trans g2, ho3, b2.alloc (by omega) _, by simp; omega⟩
    clear x0 x1 x2 g2 b2 ho3 k2 G1 B1 RI
    go_upto_region 5 with (fail)
    generalize w2.alloc (.cells #[.pointer none, .int .i64 0] 64) = W3 at *
    obtain ⟨o, ho⟩ : ∃ o, o = w2.heap.size := ⟨_, rfl⟩
    rw [← ho] at S3 ⊢
    clear ho s2 hlt1
    have x0 := Sm.cells_of S3.out.box 0 _ rfl
    have NUM : Hid (∀ (n : Nat), n < 2 ^ 64 → ∀ (wx : World) (bs : List UInt8), Ba.Wr w wx N o ix ep A c l bs → bs.length ≤ 1000000000 → Calls Try.prog 35 #[.pointer (some ⟨o, 0, none⟩), .int .u64 (n : Int)] wx fun e w' => e = .returned (.tuple #[]) ∧ Ba.Wr w w' N o ix ep A c l (bs ++ enc n)) := fun n hn wx bs h hb =>
      (oNum_any_fr n hn h.out h.low (by omega)).mono fun _ _ ⟨h1, h2, h3, h4⟩ => ⟨h1, h.next h2 h3 h4⟩
    have wi : IntKind.u64.wrap ix = ix := by rw [IntKind.wrap_u64]; omega
    have we : IntKind.u64.wrap ep = ep := by rw [IntKind.wrap_u64]; omega
    have N1 : Hid (Calls Try.prog 35 #[.pointer (some ⟨o, 0, none⟩), .int .u64 ix] W3 fun e w' => e = .returned (.tuple #[]) ∧ Ba.Wr w w' N o ix ep A c l (enc ix.toNat)) := by
      have := NUM.out ix.toNat hin W3 [] S3.out (by simp)
      rw [HWI.out] at this
      exact this
    go_wp2_with fail
    refine N1.out.mono ?_
    rintro e w4 ⟨rfl, s4⟩
    have x1 := Sm.cells_of s4.box 1 _ rfl
    have N2 : Hid (Calls Try.prog 35 #[.pointer (some ⟨o, 0, none⟩), .int .u64 ep] w4 fun e w' => e = .returned (.tuple #[]) ∧ Ba.Wr w w' N o ix ep A c l (enc ix.toNat ++ enc ep.toNat)) := by
      have := NUM.out ep.toNat hen w4 _ s4 (by omega)
      rw [HWE.out] at this
      exact this
    clear x0 N1 S3 s4
    go_wp2_with fail
    refine N2.out.mono ?_
    rintro e w5 ⟨rfl, s5⟩
    have x2 := Sm.cells_of s5.box 2 _ rfl
    have wl : IntKind.u64.wrap (l.length : Int) = (l.length : Int) := by rw [IntKind.wrap_u64]; omega
    have N3 : Hid (Calls Try.prog 35 #[.pointer (some ⟨o, 0, none⟩), .int .u64 (l.length : Int)] w5 fun e w' => e = .returned (.tuple #[]) ∧ Ba.Wr w w' N o ix ep A c l (enc ix.toNat ++ enc ep.toNat ++ enc l.length)) := NUM.out l.length (by omega) w5 _ s5 (by rw [List.length_append]; omega)
    clear x1 N2 s5
    go_wp2_with fail
    refine N3.out.mono ?_
    rintro e w6 ⟨rfl, s6⟩
    have x2 := Sm.cells_of s6.box 2 _ rfl
    obtain ⟨HD, hHD⟩ : ∃ x, x = enc ix.toNat ++ enc ep.toNat ++ enc l.length := ⟨_, rfl⟩
    rw [← hHD] at s6
    have hHl : HD.length ≤ 30 := by rw [hHD]; simp only [List.length_append]; omega
    have HHD := Lib.hid hHD
    have S6 := Lib.hid s6
    clear N3 s6 NUM hHD wi we wl hl1 hl2 hl3
    go_upto_region 9 with (fail)
    go_loopw [29] (fun v wr => ∃ k : Nat, v = .int .i64 k ∧ k ≤ l.length ∧ Ba.Wr w wr N o ix ep A c l (HD ++ Ba.opsB (l.take k))) (fun v _ => l.length - (intOf v).toNat)
    case atStart => exact ⟨0, rfl, Nat.zero_le _, by simpa [Ba.opsB] using S6.out⟩
    case round =>
      clear S6 x2
      obtain ⟨k, rfl, hk, s⟩ := hrel
      by_cases hlt : k < l.length
      · have hki : (k : Int) < (l.length : Int) := by omega
        have hsuc : IntKind.i64.wrap ((k : Int) + 1) = ((k + 1 : Nat) : Int) := by simp [IntKind.wrap, IntKind.bits, IntKind.signed]; omega
        obtain ⟨gb, off, rfl, hgl, o0, o1, o2⟩ := HIT.out _ s.bel k hlt
        have hsm := HS.out _ (List.getElem_mem hlt)
        have htk := Ba.opsB_take hlt
        have hol : (Ba.opsB (l.take k)).length ≤ 2097200 * 4 := by
          have h1 := Ba.opsB_len (l := l.take k) (fun o ho => HS.out o (List.mem_of_mem_take ho))
          have h2 : (l.take k).length ≤ 4 := by rw [List.length_take]; omega
          omega
        obtain ⟨x, hx⟩ : ∃ x, x = l[k] := ⟨_, rfl⟩
        rw [← hx] at o0 o1 o2 hsm htk
        have S1 := Lib.hid (s.alloc (.cells #[.int .u8 (x.k : Int), .string x.p, .string x.v] 37))
        have gn := heap_alloc_new wr (.cells #[.int .u8 (x.k : Int), .string x.p, .string x.v] 37)
        have y0 := Sm.cells_of gn 0 _ rfl
        have y1 := Sm.cells_of gn 1 _ rfl
        have y2 := Sm.cells_of gn 2 _ rfl
        have WR := Lib.hid (baWrite_any x hsm.1 S1.out.out S1.out.low (by rw [List.length_append]; omega))
        have HTK := Lib.hid htk
        clear hx hgl s htk gn
        go_wp2_with fail
        refine WR.out.mono ?_
        rintro e w7 ⟨rfl, h1, h2, h3⟩
        have S7 := Lib.hid (S1.out.next h1 h2 h3)
        clear h1 h2 h3 S1
        go_wp2
        go_roundw
        case rel => exact ⟨k + 1, rfl, hlt, by rw [HTK.out, ← List.append_assoc]; exact S7.out⟩
        case measure => simp [intOf]; omega
      · have hki : ¬ (k : Int) < (l.length : Int) := by omega
        have hkl : k = l.length := by omega
        have s2 := s
        rw [hkl, List.take_length] at s2
        have hrl : (HD ++ Ba.opsB l).length ≤ 140737488355328 := by
          have h1 := Ba.opsB_len HS.out
          rw [List.length_append]
          omega
        have ST := Lib.hid (oString_any s2.out hrl)
        have B9 := Lib.hid s2.bel
        clear s s2 hrl hkl
        go_wp2_with fail
        refine ST.out.mono ?_
        rintro e w7 ⟨rfl, n, rfl⟩
        go_wp2
        go_ret2
        refine ⟨?_, Sm.below_drewN B9.out n⟩
        rw [HBB.out, HHD.out, HR0.out]
        simp only [List.append_assoc]
        rfl
  · rw [if_neg hr]
    have hri : ((R : Int) != 0) = true := by rw [bne_iff_ne]; omega
    clear hr
    go_enter Try.func16, Try.ntmps16
    go_upto_region 1 with (fail)
    rw [← HN.out]
    generalize w.alloc (.cells #[.int .i64 ix, .int .i64 ep, .slice A l.length c] 31) = W1 at *
    go_wp2_with fail
    refine (RI.out).mono ?_
    rintro e w2 ⟨rfl, k2⟩
    go_wp2
    go_ret2
    exact ⟨rfl, B1.out.trans (k2.mono (Nat.le_of_lt hlt1))⟩
end Go.Proofs.Ytlndggbidmmodaa
