/-
  What seal's Bytes does.
-/
import Derived.Test.YtapogiihkbjppaaDoorSeOpen
namespace Go.Proofs.YtapogiihkbjppaaDoor
open Go.RowKit Pk
namespace Se
/-- What Bytes answers. -/
def spelled (x : Env) : List UInt8 × Nat := if x.Right then (bytes x, 0) else ([], 1)
theorem run_index_hash (w : World) (cs : Array Value) (k : Nat) (hk : k < 32) (v : Value) (hv : cs[k]? = some v) :
    (Instr.index 26 (.agg cs) (.int .i64 k)).run Tryd.prog w = .ok v w := by
  have hu : Tryd.prog.underlying 26 = some (.array 32 5) := Tryd.underlying26
  have h1 : (0 : Int) ≤ (k : Int) ∧ (k : Int) < ((32 : Nat) : Int) := by omega
  simp [Instr.index, run_underlying hu, asIntOf, h1, go_sem, part, hv, hk]
end Se

set_option maxRecDepth 100000 in
set_option maxHeartbeats 1000000 in
theorem bytes5_any (w : World) (x : Se.Env) (ok : x.Ok) :
    Calls Tryd.prog 10 #[.agg x.cells.toArray] w fun e w' =>
      e = .returned (.tuple #[.string ⟨(Se.spelled x).1.toArray⟩, .int .i64 (Se.spelled x).2]) ∧ Below w.heap.size w w' := by
  obtain ⟨cs, hcs⟩ : ∃ c, c = x.cells := ⟨_, rfl⟩
  have hcsl : cs.length = 36 := by rw [hcs]; exact Se.cells_length x ok.tag
  have hcss : cs.toArray.size = 36 := by rw [List.size_toArray, hcsl]
  have HCS := Lib.hid hcs
  obtain ⟨N, hN⟩ : ∃ N, N = w.heap.size := ⟨_, rfl⟩
  have r0 : (w.alloc (.cells cs.toArray 28)).heap[N]? = some (.cells cs.toArray 28 (0, 0)) := by
    rw [hN]; exact heap_alloc_new w _
  have b1 : Below N w (w.alloc (.cells cs.toArray 28)) := by rw [hN]; exact Se.below_new w _
  have s1 : (w.alloc (.cells cs.toArray 28)).heap.size = N + 1 := by rw [hN]; simp
  have R0 := Lib.hid r0
  have B1 := Lib.hid b1
  rw [← hcs, ← hN]
  have HN := Lib.hid hN
  have RI : Hid (∀ wx : World, Calls Tryd.prog 22 #[.agg cs.toArray] wx fun e w' => e = .returned (.bool (decide x.Right)) ∧ Below wx.heap.size wx w') := fun wx => by
    rw [hcs]; exact right_any wx x ok
  clear hcs hN r0 b1
  unfold Se.spelled
  by_cases hr : x.Right
  · rw [if_pos hr]
    rw [decide_eq_true hr] at RI
    go_enter Tryd.func10, Tryd.ntmps10
    go_upto_region 1 with (fail)
    rw [← HN.out]
    generalize w.alloc (.cells cs.toArray 28) = W1 at *
    go_wp2_with (with_reducible refine wpList_load_row rfl 28 (.tmp 1) rfl N rfl 28 cs.toArray (0, 0) _ (by exact R0.out) Tryd.underlying28 rfl (Se.infoEnv hcss) ?_)
    refine (RI.out _).mono ?_
    rintro e w2 ⟨rfl, k2⟩
    have Q2 := Lib.hid ((k2.block N (by omega)).trans R0.out)
    have B2 := Lib.hid (B1.out.trans (k2.mono (by omega)))
    have s2 := k2.size
    clear k2 R0 B1 RI
    have ho3 : outAt (w2.alloc (.cells #[.pointer none, .int .i64 0] 58)) N w2.heap.size [] := ⟨by omega, .inl ⟨heap_alloc_new w2 _, rfl⟩⟩
    have f3 : Fr w2 (w2.alloc (.cells #[.pointer none, .int .i64 0] 58)) := (Fr.refl w2).alloc _
    have b3 : Below N w (w2.alloc (.cells #[.pointer none, .int .i64 0] 58)) := B2.out.alloc (by omega) _
    have s3 : (w2.alloc (.cells #[.pointer none, .int .i64 0] 58)).heap.size = w2.heap.size + 1 := by simp
    have q3 := f3 _ _ _ _ Q2.out (by decide) (by decide) (by decide)
    clear f3 Q2 B2
    go_upto_region 4 with (fail)
    generalize w2.alloc (.cells #[.pointer none, .int .i64 0] 58) = W3 at *
    obtain ⟨o, ho⟩ : ∃ o, o = w2.heap.size := ⟨_, rfl⟩
    rw [← ho] at ho3 ⊢
    have hoN : N ≤ o := by omega
    clear ho
    have NU : Hid (∀ (wx : World) (bs : List UInt8), outAt wx N o bs → N ≤ wx.heap.size → bs.length + 30 ≤ 140737488355328 → Calls Tryd.prog 24 #[.pointer (some ⟨o, 0, none⟩), .agg cs.toArray] wx fun e w' => e = .returned (.tuple #[]) ∧ outAt w' N o (bs ++ Se.head x) ∧ Below N wx w' ∧ Fr wx w') := fun wx bs h1 h2 h3 => by
      rw [HCS.out]; exact numbers_any x ok hr.1.1 h1 h2 h3
    have CELL : Hid (∀ wx : World, wx.heap[N]? = some (.cells cs.toArray 28 (0, 0)) → wx.cell? ⟨N, 3, none⟩ = some (.string x.data) ∧ wx.rangeAt N 4 (Lib.byteCells x.tag)) := fun wx h => by
      rw [HCS.out] at h
      refine ⟨(Se.EnvAt.cell h).2.2.2, fun j v hv => ?_⟩
      have hj := (List.getElem?_eq_some_iff.1 hv).1
      rw [Lib.byteCells_length] at hj
      rw [Se.EnvAt.tag h j hj, ← hv, Sm.byteCells_get hj]
    have lh : (Se.head x).length ≤ 30 := by
      have h1 := enc_len (n := x.key.toNat) (by have := ok.key; omega)
      have h2 := enc_len (n := x.boot) (by have := ok.boot; omega)
      have h3 := enc_len (n := x.n) (by have := ok.n; omega)
      simp only [Se.head, List.length_append]
      omega
    have hd := hr.2
    have ld := enc_len (n := x.data.size) (by omega)
    have Q3 := Lib.hid q3
    clear q3
    go_wp2_with (with_reducible refine wpList_load_row rfl 28 (.tmp 1) rfl N rfl 28 cs.toArray (0, 0) _ (by exact Q3.out) Tryd.underlying28 rfl (Se.infoEnv hcss) ?_)
    refine (NU.out _ [] ho3 (by omega) (by simp)).mono ?_
    rintro e w4 ⟨rfl, ho4, b4, f4⟩
    have e4 := f4 _ _ _ _ Q3.out (by decide) (by decide) (by decide)
    have s4 := b4.size
    have B4 := Lib.hid (b3.trans b4)
    rw [List.nil_append] at ho4
    have c4 := (CELL.out _ e4).1
    have T4 := oText_any_fr x.data ho4 (by omega) (by omega)
    have Q4 := Lib.hid e4
    clear e4 f4 b4 b3 ho3 ho4 Q3 NU
    go_wp2_with fail
    refine T4.mono ?_
    rintro e w5 ⟨rfl, ho5, b5, f5⟩
    have e5 := f5 _ _ _ _ Q4.out (by decide) (by decide) (by decide)
    have s5 := b5.size
    have B5 := Lib.hid (B4.out.trans b5)
    have R5 := Lib.hid (CELL.out _ e5).2
    have hdl : x.data.data.toList.length = x.data.size := by rw [Array.length_toList]; rfl
    have htx : Se.head x ++ (enc x.data.size ++ x.data.data.toList) = Se.head x ++ Se.txt x.data.data.toList := by rw [Se.txt, hdl]
    rw [htx] at ho5
    obtain ⟨pre, hpre⟩ : ∃ p, p = Se.head x ++ Se.txt x.data.data.toList := ⟨_, rfl⟩
    have hprel : pre.length ≤ 9000 := by
      rw [hpre, ← htx]
      simp only [List.length_append]
      omega
    rw [← hpre] at ho5
    have HPRE := Lib.hid hpre
    have htl := ok.tag
    have hxl : (Lib.byteCells x.tag).length = 32 := by rw [Lib.byteCells_length, ok.tag]
    have hitl : (Tryd.prog.info? 26).map (·.size) = some (Lib.byteCells x.tag).length := by rw [hxl]; kernel_rfl
    obtain ⟨tl, htle⟩ : ∃ t, t = Lib.byteCells x.tag := ⟨_, rfl⟩
    rw [← htle] at R5 hxl hitl
    have HTL := Lib.hid htle
    have HO5 := Lib.hid ho5
    clear e5 f5 b5 B4 Q4 T4 c4 CELL htx hdl lh ld hd hpre htle ho5
    go_wp2_with (with_reducible refine wpList_load_mid rfl 26 (.tmp 15) rfl N 4 rfl tl _ (by exact R5.out) Tryd.underlying26 rfl hitl ?_)
    go_loopw [17] (fun i wr => ∃ k : Nat, k ≤ 32 ∧ i = .int .i64 k ∧ outAt wr N o (pre ++ x.tag.take k) ∧ Below N w wr ∧ N ≤ wr.heap.size) (fun i _ => 32 - (intOf i).toNat)
    case atStart => exact ⟨0, by omega, rfl, by rw [List.take_zero, List.append_nil]; exact HO5.out, B5.out, by omega⟩
    case round =>
      clear HO5 B5 R5
      obtain ⟨k, hk, rfl, hok, hbk, hsk⟩ := hrel
      by_cases hlt : k < 32
      · have q1 : (k : Int) < 32 := by omega
        have ht : tl[k]? = some (.int .u8 ((x.tag.getD k 0).toNat : Int)) := by rw [HTL.out]; exact Sm.byteCells_get (by omega)
        have hsn : x.tag.take (k + 1) = x.tag.take k ++ [x.tag.getD k 0] := by
          rw [List.take_add_one, List.getD_eq_getElem?_getD, List.getElem?_eq_getElem (by omega)]
          rfl
        obtain ⟨b, hb⟩ : ∃ b, b = x.tag.getD k 0 := ⟨_, rfl⟩
        rw [← hb] at ht hsn
        clear hb
        have HSN := Lib.hid hsn
        clear hsn
        have hlk : (pre ++ x.tag.take k).length + 1 ≤ 140737488355328 := by rw [List.length_append, List.length_take]; omega
        have BY := oByte_any _ b rfl hok hsk hlk
        have hix := fun wx => Se.run_index_hash wx tl.toArray k hlt _ (by rw [List.getElem?_toArray]; exact ht)
        go_wp2_with fail
        refine BY.mono ?_
        rintro e w6 ⟨rfl, ho6, b6⟩
        go_wp2_with fail
        go_roundw
        case rel =>
          refine ⟨k + 1, by omega, by go_num, ?_, hbk.trans b6, Nat.le_trans hsk b6.size⟩
          rw [HSN.out, ← List.append_assoc]
          exact ho6
        case measure => simp [intOf]; omega
      · obtain rfl : k = 32 := by omega
        have q1 : ¬ ((32 : Nat) : Int) < 32 := by omega
        rw [List.take_of_length_le (by omega)] at hok
        have hres : pre ++ x.tag = Se.bytes x := by rw [HPRE.out]; simp [Se.bytes, List.append_assoc]
        rw [hres] at hok
        have hbl : (Se.bytes x).length ≤ 140737488355328 := by rw [← hres, List.length_append]; omega
        have ST := oString_any hok hbl
        go_wp2_with fail
        refine ST.mono ?_
        rintro e w6 ⟨rfl, n6, rfl⟩
        go_wp2_with fail
        refine bodyPost_ret (results_tmp2 rfl _ _ _) rfl ?_
        exact ⟨rfl, Sm.below_drewN hbk n6⟩
  · rw [if_neg hr]
    rw [decide_eq_false hr] at RI
    show Calls _ _ _ _ fun e w' => e = .returned (.tuple #[.string ⟨#[]⟩, .int .i64 1]) ∧ Below N w w'
    go_enter Tryd.func10, Tryd.ntmps10
    go_upto_region 1 with (fail)
    rw [← HN.out]
    generalize w.alloc (.cells cs.toArray 28) = W1 at *
    go_wp2_with (with_reducible refine wpList_load_row rfl 28 (.tmp 1) rfl N rfl 28 cs.toArray (0, 0) _ (by exact R0.out) Tryd.underlying28 rfl (Se.infoEnv hcss) ?_)
    refine (RI.out _).mono ?_
    rintro e w2 ⟨rfl, k2⟩
    go_wp2_with fail
    refine bodyPost_ret (results_tmp2 rfl _ _ _) rfl ?_
    exact ⟨rfl, B1.out.trans (k2.mono (by omega))⟩
end Go.Proofs.YtapogiihkbjppaaDoor
