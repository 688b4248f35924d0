/-
  net's All: the packets on their way, in a row of the call's own.
-/
import Derived.Test.YtimbcmcmidnlfaaNtTake
namespace Go.Proofs.Ytimbcmcmidnlfaa
open Go.RowKit
theorem Nt.new_pk (w : World) (f t : Int) (d : ByteArray) : ∀ j u, [Value.int .i64 f, .int .i64 t, .string d][j]? = some u → (w.alloc (.cells #[.int .i64 f, .int .i64 t, .string d] 25)).cell? ((⟨w.heap.size, 0, none⟩ : Addr).add j) = some u := fun j u hj => by
  rw [Addr.add_mid, Nat.zero_add]
  exact Sm.cells_of (heap_alloc_new w (.cells #[.int .i64 f, .int .i64 t, .string d] 25)) j u (by simpa using hj)
theorem Nt.one_pk (f t : Int) (d : ByteArray) : ∀ u ∈ [Value.int .i64 f, .int .i64 t, .string d], u.oneCell' = true := by
  have := Nt.flat_single [⟨f, t, d⟩]
  rw [Nt.flat_one] at this
  exact this
set_option maxRecDepth 100000 in
set_option maxHeartbeats 1000000 in
theorem ntAll_any {B : Nat} {w0 w : World} {r : Nat} {L : Nat → Prop} {M : Nt.Md} (h : Nt.Own B w0 w r L M) :
    Calls Try.prog 19 #[.pointer (some ⟨r, 0, none⟩)] w fun e w' => ∃ v, e = .returned v ∧ Nt.PksAt w' w.heap.size v M.row ∧ Below w.heap.size w w' := by
  obtain ⟨i0, hi, hz0, hz1, hz2⟩ := info_parts Nt.info3_packet
  have NO := Lib.hid (ntNone_not h.cell0)
  obtain ⟨A, c, hn, hP, -, -, -⟩ := h.netBlock
  have hlen := h.net.ok.len
  have hdat := h.net.ok.data
  have c2 := Sm.cells_of hn 2 (.slice A M.row.length c) rfl
  have HP := Lib.hid hP
  have HD := Lib.hid hdat
  have HI := Lib.hid hi
  clear h hn hP hdat hi
  generalize M.row = row at *
  go_enter Try.func19, Try.ntmps19
  go_wp2_with fail
  refine NO.out.mono ?_
  rintro e w1 ⟨rfl, rfl⟩
  go_wp2
  go_loopw [3, 5, 13] (fun s3 _ s13 wr => ∃ k : Nat, s13 = .int .i64 k ∧ k ≤ row.length ∧ wr.ownsRow w.heap.size 25 3 s3 k (Nt.flat (row.take k)) ∧ Below w.heap.size w wr) (fun _ _ s13 _ => row.length - (intOf s13).toNat)
  case atStart => exact ⟨0, rfl, Nat.zero_le _, World.ownsRow_nil _ _ _ _, Below.refl _ w⟩
  case round =>
    clear c2 NO
    obtain ⟨k, rfl, hk, ho, hb⟩ := hrel
    obtain ⟨Av, cv, hv⟩ := Sm.own_shape ho
    subst hv
    have HO := Lib.hid ho
    clear ho
    by_cases hkl : k < row.length
    · have hki : (k : Int) < (row.length : Int) := by omega
      have hsuc : IntKind.i64.wrap ((k : Int) + 1) = ((k + 1 : Nat) : Int) := by simp [IntKind.wrap, IntKind.bits, IntKind.signed]; omega
      obtain ⟨g, rfl, hgl, x0, x1, x2⟩ := (HP.out.low hb).get hkl
      have hnext : row.take (k + 1) = row.take k ++ [row[k]] := List.take_succ_eq_append_getElem hkl
      have hpd := HD.out _ (List.getElem_mem hkl)
      obtain ⟨p, hp⟩ : ∃ p, p = row[k] := ⟨_, rfl⟩
      rw [← hp] at x0 x1 x2 hnext hpd
      have HNX := Lib.hid hnext
      have OW : Hid (∀ wx : World, Calls Try.prog 35 #[.agg p.cells.toArray] wx fun e w' => e = .returned (.agg p.cells.toArray) ∧ Below wx.heap.size wx w') := fun wx => ntOwn_any wx p hpd
      have hbs := hb.size
      obtain ⟨f, t, d⟩ := p
      unfold Nt.Pk.cells at OW
      simp only at x0 x1 x2 OW
      clear hp hnext hpd
      go_wp2_with fail
      have b4' : Below wr.heap.size wr (wr.alloc (.cells #[.int .i64 f, .int .i64 t, .string d] 25)) := (Below.refl _ wr).alloc (Nat.le_refl _) _
      have g4 := heap_alloc_new wr (.cells #[.int .i64 f, .int .i64 t, .string d] 25)
      have o4 := Nt.own_keep HO.out (w' := wr.alloc (.cells #[.int .i64 f, .int .i64 t, .string d] 25)) (fun i _ hi => b4'.block i (Sm.lt_of hi))
      have b4 := hb.trans (b4'.mono hbs)
      generalize wr.alloc (.cells #[.int .i64 f, .int .i64 t, .string d] 25) = w4 at *
      refine (OW.out w4).mono ?_
      rintro e w5 ⟨rfl, k5⟩
      have o5 := Nt.own_keep o4 (fun i _ hi => k5.block i (Sm.lt_of hi))
      have b5 := b4.trans (k5.mono b4.size)
      have O5 := Lib.hid o5
      have B5 := Lib.hid b5
      clear x0 x1 x2 b4' g4 o4 b4 k5 o5 b5 hb hbs HO
      have hb5 : w.heap.size ≤ (w5.alloc (.cells #[.int .i64 f, .int .i64 t, .string d] 25)).heap.size := by have := B5.out.size; simp; omega
      have HB5 := Lib.hid hb5
      clear hb5
      go_wp2_with (at_builtin; refine wpList_append_own _ rfl _ _ 37 rfl w.heap.size 25 i0 _ 3 32 Try.underlying37 HI.out hz0 hz1 hz2 rfl (by decide) _ _ _ rfl (O5.out.alloc _) ⟨w5.heap.size, 0, none⟩ 1 1 [.int .i64 f, .int .i64 t, .string d] rfl rfl (Nt.new_pk w5 f t d) (Nt.one_pk f t d) (by unfold maxLen; omega) (by omega) HB5.out ?_
                   intro v' w6 hown' hgrow _)
      have hb6 : Below w.heap.size w w6 := (B5.out.alloc (by have := B5.out.size; omega) _).grown hgrow HB5.out (fun q hq => (Nt.own_blk O5.out hq).1)
      have hown6 : w6.ownsRow w.heap.size 25 3 v' (k + 1) (Nt.flat (row.take (k + 1))) := by
        rw [HNX.out, Nt.flat_append, Nt.flat_one]; exact hown'
      have HW := Lib.hid hown6
      have HB := Lib.hid hb6
      clear hown' hgrow hown6 hb6 O5 B5 HB5
      go_wp2
      go_roundw
      case rel => exact ⟨k + 1, rfl, hkl, HW.out, HB.out⟩
      case measure => simp [intOf]; omega
    · have hki : ¬ (k : Int) < (row.length : Int) := by omega
      have hke : row.take k = row := List.take_of_length_le (by omega)
      have hkk : k = row.length := by omega
      have h : Nt.PksAt wr w.heap.size (.slice Av k cv) row := by
        have := HO.out
        rw [hke] at this
        unfold Nt.PksAt
        rw [← hkk]; exact this
      have HH := Lib.hid h
      clear h hke hkk
      go_wp2
      go_ret
      exact ⟨_, rfl, HH.out, hb⟩
end Go.Proofs.Ytimbcmcmidnlfaa
