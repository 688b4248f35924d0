/-
  What seal's Read does.
-/
import Derived.Test.YtibpgmcpcelmpaaGreatDoorSeOne
import Derived.Test.YtibpgmcpcelmpaaGreatDoorMPack
namespace Go.Proofs.YtibpgmcpcelmpaaGreatDoor
open Go.RowKit Pk
namespace Se
/-- Where Read stands: the reader r in block b, what was read in block M; the answer's block N is still untouched. -/
structure St (w W : World) (N b M : Nat) (z0 : Array Value) (x : Env) (r : Rd) : Prop where
  inn : inAt W b r
  env : EnvAt W M x
  row : W.heap[N]? = some (.cells z0 66 (0, 0))
  bel : Below N w W
  ne1 : b ≠ M
  ne2 : b ≠ N
  ne3 : M ≠ N
  le1 : N ≤ b
  le2 : N ≤ M
  le3 : N ≤ W.heap.size
theorem St.step {w W W' : World} {N b M : Nat} {z0 : Array Value} {x : Env} {r r' : Rd} (h : St w W N b M z0 x r) (k : Stp W W' b r') : St w W' N b M z0 x r' where
  inn := k.inAt
  env := (k.grown.block M h.env.lt (by intro e; exact h.ne1 (Option.some.inj e).symm)).trans h.env
  row := (k.grown.block N (Sm.lt_of h.row) (by intro e; exact h.ne2 (Option.some.inj e).symm)).trans h.row
  bel := h.bel.trans (Sm.grown_from k.grown h.le1 h.le3)
  ne1 := h.ne1
  ne2 := h.ne2
  ne3 := h.ne3
  le1 := h.le1
  le2 := h.le2
  le3 := Nat.le_trans h.le3 k.grown.size
theorem St.set {w W : World} {N b M : Nat} {z0 : Array Value} {x x' : Env} {r : Rd} (h : St w W N b M z0 x r) (i : Nat) (v : Value) (hx : x.cells.toArray.setIfInBounds i v = x'.cells.toArray) : St w (W.setCell ⟨M, i, none⟩ v) N b M z0 x' r where
  inn := (Below.heap_setCell _ _ _ _ h.ne1).trans h.inn
  env := by
    have e := Sm.heap_set h.env i v
    rw [hx] at e
    exact e
  row := (Below.heap_setCell _ _ _ _ (Ne.symm h.ne3)).trans h.row
  bel := h.bel.setCell (p := ⟨M, i, none⟩) h.le2 _
  ne1 := h.ne1
  ne2 := h.ne2
  ne3 := h.ne3
  le1 := h.le1
  le2 := h.le2
  le3 := by simpa using h.le3
theorem St.drewN {w W : World} {N b M : Nat} {z0 : Array Value} {x : Env} {r : Rd} (h : St w W N b M z0 x r) (n : Nat) : St w (W.drewN n) N b M z0 x r where
  inn := h.inn
  env := h.env
  row := h.row
  bel := Sm.below_drewN h.bel n
  ne1 := h.ne1
  ne2 := h.ne2
  ne3 := h.ne3
  le1 := h.le1
  le2 := h.le2
  le3 := h.le3
theorem set_key (x : Env) (k : Int) : x.cells.toArray.setIfInBounds 0 (.int .i64 k) = ({ x with key := k } : Env).cells.toArray := by simp [Env.cells]
theorem set_boot (x : Env) (k : Nat) : x.cells.toArray.setIfInBounds 1 (.int .u32 k) = ({ x with boot := k } : Env).cells.toArray := by simp [Env.cells]
theorem set_n (x : Env) (k : Nat) : x.cells.toArray.setIfInBounds 2 (.int .u64 k) = ({ x with n := k } : Env).cells.toArray := by simp [Env.cells]
theorem set_data (x : Env) (d : ByteArray) : x.cells.toArray.setIfInBounds 3 (.string d) = ({ x with data := d } : Env).cells.toArray := by simp [Env.cells]
theorem set_tag (x : Env) (k : Nat) (b : UInt8) : x.cells.toArray.setIfInBounds (4 + k) (.int .u8 b.toNat) = ({ x with tag := x.tag.set k b } : Env).cells.toArray := by
  rw [Nat.add_comm 4 k]
  simp [Env.cells, Lib.byteCells, List.map_set]
/-- The tag's first bytes, and noughts. -/
def part (l : List UInt8) (n : Nat) : List UInt8 := l ++ List.replicate n 0
theorem part_set (l : List UInt8) (n : Nat) (b : UInt8) : (part l (n + 1)).set l.length b = part (l ++ [b]) n := by
  simp [part, List.replicate_succ]
theorem byteN_ok {r : Rd} (h : r.Ok) (k : Nat) : (byteN k r).2.Ok := by
  induction k with
  | zero => exact h
  | succ k ih => exact ih.byte
theorem byte_lt (r : Rd) : r.byte.1 < 256 := by
  have h : ∀ c : Bool, (if c = true then (r.rest.headD 0).toNat else 0) < 256 := by
    intro c
    cases c
    · show 0 < 256
      decide
    · exact UInt8.toNat_lt _
  exact h _
end Se

set_option maxRecDepth 100000 in
set_option maxHeartbeats 2000000 in
theorem read5_any (w : World) (s : ByteArray) (hs : s.size ≤ 281474976710656) :
    Calls Tryz.prog 24 #[.string s] w fun e w' =>
      e = .returned (.tuple #[.agg (Se.read s).1.cells.toArray, .int .i64 (Se.read s).2]) ∧ Below w.heap.size w w' := by
  have hz1 := (zero_of_info Se.zeroEnv).1
  have hzs : Se.zero.cells.toArray.size = 36 := Se.cells_length _ (by rfl)
  have hzo := Se.cells_one Se.zero
  obtain ⟨z0, hz0⟩ : ∃ z, z = Se.zero.cells.toArray := ⟨_, rfl⟩
  rw [← hz0] at hz1 hzs hzo
  have HZ := Lib.hid hz0
  obtain ⟨N, hN⟩ : ∃ N, N = w.heap.size := ⟨_, rfl⟩
  have r0 : (w.alloc (.cells z0 66)).heap[N]? = some (.cells z0 66 (0, 0)) := by rw [hN]; exact heap_alloc_new w _
  have b1 : Below N w (w.alloc (.cells z0 66)) := by rw [hN]; exact Se.below_new w _
  have s1 : (w.alloc (.cells z0 66)).heap.size = N + 1 := by rw [hN]; simp
  rw [← hN]
  have HN := Lib.hid hN
  clear hz0 hN
  have R0 := Lib.hid r0
  have B1 := Lib.hid b1
  go_enter Tryz.func24, Tryz.ntmps24
  go_upto_region 1 with (fail)
  rw [← HN.out]
  generalize w.alloc (.cells z0 66) = W1 at *
  have OF := of_any s W1 hs
  go_wp2_with fail
  refine OF.mono ?_
  rintro e w2 ⟨b, hb, rfl, hin2, k2⟩
  have r2 := (k2.block N (by omega)).trans r0
  have b2 : Below N w w2 := b1.trans (k2.mono (by omega))
  have s2 := k2.size
  have hlt := hin2.lt
  have S3 : Hid (Se.St w (w2.alloc (.cells z0 66)) N b w2.heap.size z0 Se.zero ⟨s, 0, 0⟩) :=
    ⟨(Below.heap_alloc _ _ _ hlt).trans hin2, by rw [HZ.out]; exact Se.env_new w2 Se.zero, (Below.heap_alloc _ _ _ (Sm.lt_of r2)).trans r2, b2.alloc (by omega) _, by omega, by omega, by omega, by omega, by omega, by simp; omega⟩
  clear OF r2 b2 hin2 k2 R0 B1 r0 b1
  go_upto_region 3 with (fail)
  generalize w2.alloc (.cells z0 66) = W3 at *
  obtain ⟨M, hM⟩ : ∃ M, M = w2.heap.size := ⟨_, rfl⟩
  rw [← hM] at S3 ⊢
  clear hM hlt hb s2 s1
  have ok0 : Rd.Ok ⟨s, 0, 0⟩ := ⟨Nat.zero_le _, Nat.zero_le _, hs⟩
  have ok1 : (Se.rd1 s).2.Ok := ok0.most _
  have ok2 : (Se.rd2 s).2.Ok := ok1.most _
  have ok3 : (Se.rd3 s).2.Ok := ok2.num
  have ok4 : (Se.rd4 s).2.Ok := ok3.text _
  have M3 := most_in S3.out.inn ok0 1048576 (by decide)
  go_wp2_with fail
  refine M3.mono ?_
  rintro e w4 ⟨rfl, st⟩
  have S4 : Hid (Se.St w w4 N b M z0 Se.zero (Se.rd1 s).2) := S3.out.step st
  clear S3 M3 st
  obtain ⟨c0, -, -, -⟩ := S4.out.env.cell
  have f0 := Sm.free_of S4.out.env 0
  have S5 := Lib.hid (S4.out.set 0 (.int .i64 (Se.rd1 s).1) (Se.set_key _ _))
  have e1 : ((⟨s, 0, 0⟩ : Rd).most 1048576).1 = (Se.rd1 s).1 := rfl
  rw [e1]
  obtain ⟨v1, hv1⟩ : ∃ v, v = (Se.rd1 s).1 := ⟨_, rfl⟩
  rw [← hv1] at S5 ⊢
  have HV1 := Lib.hid hv1
  clear e1 hv1
  go_upto_region 4 with (fail)
  generalize w4.setCell ⟨M, 0, none⟩ (.int .i64 v1) = W5 at *
  clear S4 c0 f0
  have M5 := most_in S5.out.inn ok1 4294967295 (by decide)
  have hv2b := Se.most_le (Se.rd1 s).2 4294967295 (by decide)
  have e2 : ((Se.rd1 s).2.most 4294967295).1 = (Se.rd2 s).1 := rfl
  rw [e2] at M5 hv2b
  obtain ⟨v2, hv2⟩ : ∃ v, v = (Se.rd2 s).1 := ⟨_, rfl⟩
  rw [← hv2] at M5 hv2b
  have HV2 := Lib.hid hv2
  clear hv2 e2
  go_wp2_with fail
  refine M5.mono ?_
  rintro e w6 ⟨rfl, st⟩
  have S6 : Hid (Se.St w w6 N b M z0 { Se.zero with key := v1 } (Se.rd2 s).2) := S5.out.step st
  clear S5 M5 st
  obtain ⟨-, c1, -, -⟩ := S6.out.env.cell
  have f1 := Sm.free_of S6.out.env 1
  have S7 := Lib.hid (S6.out.set 1 (.int .u32 v2) (Se.set_boot _ _))
  have u2 : (v2 : Int) < 4294967296 := by omega
  have u3 : (v2 : Int) % 4294967296 = v2 := by omega
  go_upto_region 5 with (fail)
  generalize w6.setCell ⟨M, 1, none⟩ (.int .u32 v2) = W7 at *
  clear S6 c1 f1
  have M7 := num_in S7.out.inn ok2
  have e3 : (Se.rd2 s).2.num.1 = (Se.rd3 s).1 := rfl
  rw [e3] at M7
  obtain ⟨v3, hv3⟩ : ∃ v, v = (Se.rd3 s).1 := ⟨_, rfl⟩
  rw [← hv3] at M7
  have HV3 := Lib.hid hv3
  clear hv3 e3
  go_wp2_with fail
  refine M7.mono ?_
  rintro e w8 ⟨rfl, st⟩
  have S8 : Hid (Se.St w w8 N b M z0 { Se.zero with key := v1, boot := v2 } (Se.rd3 s).2) := S7.out.step st
  clear S7 M7 st
  obtain ⟨-, -, c2, -⟩ := S8.out.env.cell
  have f2 := Sm.free_of S8.out.env 2
  have S9 := Lib.hid (S8.out.set 2 (.int .u64 v3) (Se.set_n _ _))
  go_upto_region 6 with (fail)
  generalize w8.setCell ⟨M, 2, none⟩ (.int .u64 v3) = W9 at *
  clear S8 c2 f2
  have M9 := text_in S9.out.inn ok3 8192 (by decide)
  have e4 : ((Se.rd3 s).2.text 8192).1 = (Se.rd4 s).1 := rfl
  rw [e4] at M9
  obtain ⟨v4, hv4⟩ : ∃ v, v = (Se.rd4 s).1 := ⟨_, rfl⟩
  rw [← hv4] at M9
  have HV4 := Lib.hid hv4
  clear hv4 e4
  go_wp2_with fail
  refine M9.mono ?_
  rintro e w10 ⟨rfl, st⟩
  have S10 : Hid (Se.St w w10 N b M z0 { Se.zero with key := v1, boot := v2, n := v3 } (Se.rd4 s).2) := S9.out.step st
  clear S9 M9 st
  obtain ⟨-, -, -, c3⟩ := S10.out.env.cell
  have f3 := Sm.free_of S10.out.env 3
  have S11 := Lib.hid (S10.out.set 3 (.string ⟨v4.toArray⟩) (Se.set_data _ _))
  go_upto_region 7 with (fail)
  generalize w10.setCell ⟨M, 3, none⟩ (.string ⟨v4.toArray⟩) = W11 at *
  clear S10 c3 f3
  have S12 : Hid (Se.St w W11 N b M z0 ⟨v1, v2, v3, ⟨v4.toArray⟩, Se.part (Se.byteN 0 (Se.rd4 s).2).1 32⟩ (Se.byteN 0 (Se.rd4 s).2).2) := S11.out
  clear S11
  go_wp2_with fail
  go_loopw [23] (fun i wr => ∃ k : Nat, k ≤ 32 ∧ i = .int .i64 k ∧ Se.St w wr N b M z0 ⟨v1, v2, v3, ⟨v4.toArray⟩, Se.part (Se.byteN k (Se.rd4 s).2).1 (32 - k)⟩ (Se.byteN k (Se.rd4 s).2).2) (fun i _ => 32 - (intOf i).toNat)
  case atStart => exact ⟨0, by omega, rfl, S12.out⟩
  case round =>
    clear S12
    obtain ⟨k, hk, rfl, hst⟩ := hrel
    have ST := Lib.hid hst
    clear hst
    by_cases hlt : k < 32
    · have q1 : (k : Int) < 32 := by omega
      have hok := Se.byteN_ok ok4 k
      have BY := byte_in ST.out.inn hok
      have hlt8 := Se.byte_lt (Se.byteN k (Se.rd4 s).2).2
      have hbl := Se.byteN_length k (Se.rd4 s).2
      obtain ⟨v, hv⟩ : ∃ v, v = UInt8.ofNat (Se.byteN k (Se.rd4 s).2).2.byte.1 := ⟨_, rfl⟩
      have hvn : (Se.byteN k (Se.rd4 s).2).2.byte.1 = v.toNat := by rw [hv, UInt8.toNat_ofNat', Nat.mod_eq_of_lt hlt8]
      rw [hvn] at BY
      have hnx : Se.byteN (k + 1) (Se.rd4 s).2 = ((Se.byteN k (Se.rd4 s).2).1 ++ [v], (Se.byteN k (Se.rd4 s).2).2.byte.2) := by rw [hv]; rfl
      have HNX := Lib.hid hnx
      clear hv hvn hlt8 hnx
      have p0 : 0 ≤ (k : Int) := by omega
      go_wp2_with fail
      refine BY.mono ?_
      rintro e w6 ⟨rfl, st⟩
      have S6 := Lib.hid (ST.out.step st)
      clear BY st ST
      have ct := S6.out.env.tag k (by show k < (Se.part _ _).length; simp [Se.part, hbl]; omega)
      have ft := Sm.free_of S6.out.env (4 + k)
      have hps := Se.part_set (Se.byteN k (Se.rd4 s).2).1 (32 - (k + 1)) v
      rw [hbl, show 32 - (k + 1) + 1 = 32 - k by omega] at hps
      have S7 := Lib.hid (S6.out.set (4 + k) (.int .u8 v.toNat) (Se.set_tag _ k v))
      obtain ⟨old, hold⟩ : ∃ o, w6.cell? ⟨M, 4 + k, none⟩ = some o := ⟨_, ct⟩
      have HPS := Lib.hid hps
      clear ct hps S6
      go_wp2_with fail
      go_roundw
      case rel =>
        refine ⟨k + 1, by omega, by go_num, ?_⟩
        rw [HNX.out, ← HPS.out]
        exact S7.out
      case measure => simp [intOf]; omega
    · obtain rfl : k = 32 := by omega
      have q1 : ¬ ((32 : Nat) : Int) < 32 := by omega
      have FN := fin_in ST.out.inn (Se.byteN_ok ok4 32)
      have hfe : (Se.byteN 32 (Se.rd4 s).2).2.fin = Se.fault s := rfl
      rw [hfe] at FN
      have hgot : (⟨v1, v2, v3, ⟨v4.toArray⟩, Se.part (Se.byteN 32 (Se.rd4 s).2).1 (32 - 32)⟩ : Se.Env) = Se.got s := by
        rw [HV1.out, HV2.out, HV3.out, HV4.out]
        simp [Se.got, Se.part, Se.rd5]
      have st2 := ST.out
      rw [hgot] at st2
      have S8 := Lib.hid st2
      clear hgot st2 ST
      have hsp := Se.got_ok s
      have hgl : (Se.got s).cells.length = 36 := Se.cells_length _ hsp.tag
      have hrd : Se.read s = (if Se.fault s = 0 then Se.got s else Se.zero, Se.fault s) := rfl
      obtain ⟨cg, hcg⟩ : ∃ c, c = (Se.got s).cells := ⟨_, rfl⟩
      have hcgs : cg.toArray.size = 36 := by rw [hcg, List.size_toArray, hgl]
      have hcgo : cg.toArray.all (·.oneCell') = true := by rw [hcg]; exact Se.cells_one _
      have P8 : Hid (∀ (wx : World), Se.St w wx N b M z0 (Se.got s) (Se.byteN 32 (Se.rd4 s).2).2 → wx.heap[M]? = some (.cells cg.toArray 66 (0, 0))) := fun wx h => by rw [hcg]; exact h.env
      have HCG := Lib.hid hcg
      have hz2 : z0.size = cg.toArray.size := by rw [hzs, hcgs]
      clear hcg hgl hsp
      by_cases hf : Se.fault s = 0
      · rw [hf] at FN
        rw [if_pos hf, hf] at hrd
        have HRD := Lib.hid hrd
        clear hrd hf
        go_wp2_with fail
        refine FN.mono ?_
        rintro e w6 ⟨rfl, n6, rfl⟩
        have S9 := Lib.hid (S8.out.drewN n6)
        clear S8 FN
        generalize wr.drewN n6 = w6 at *
        have P9 := Lib.hid (P8.out _ S9.out)
        go_wp2_with (first | (with_reducible refine wpList_load_row rfl 66 (.tmp 5) rfl M rfl 66 cg.toArray (0, 0) _ (by exact P9.out) Tryz.underlying66 rfl (Se.infoEnv hcgs) ?_) | (with_reducible refine wpList_store_row rfl 66 (.tmp 2) (.tmp 38) rfl N cg.toArray rfl rfl 66 _ (by exact S9.out.row) (Se.infoEnv hcgs) hz2 hcgo ?_))
        exact bodyPost_ret (v := .tuple #[.agg cg.toArray, .int .i64 0]) (Se.results_row_tmp rfl _ _ N 66 _ (0, 0) _ _ rfl (setRow_heap _ N _ _ _ _ S9.out.row) Tryz.underlying66 rfl (Se.infoEnv hcgs) rfl) rfl ⟨by rw [HRD.out, HCG.out]; rfl, Sm.below_setRow S9.out.bel (Nat.le_refl _) _⟩
      · rw [if_neg hf] at hrd
        have HRD := Lib.hid hrd
        have hfb : ((Se.fault s : Int) == 0) = false := by rw [beq_eq_false_iff_ne]; omega
        obtain ⟨fa, hfa⟩ : ∃ f, f = Se.fault s := ⟨_, rfl⟩
        rw [← hfa] at FN HRD hfb
        clear hrd hf hfa hz1
        go_wp2_with fail
        refine FN.mono ?_
        rintro e w6 ⟨rfl, n6, rfl⟩
        have S9 := Lib.hid (S8.out.drewN n6)
        clear S8 FN
        generalize wr.drewN n6 = w6 at *
        go_upto_if 35 with (fail)
        rw [show ((fa : Int) != 0) = true by rw [bne, hfb]; rfl]
        clear hfb
        go_wp2_with (first | (with_reducible refine wpList_build_eq rfl 66 #[] rfl z0 (by rw [HZ.out]; kernel_rfl) ?_) | (with_reducible refine wpList_store_row rfl 66 (.tmp 2) (.tmp 36) rfl N z0 rfl rfl 66 _ (by exact S9.out.row) (Se.infoEnv hzs) rfl hzo ?_))
        exact bodyPost_ret (v := .tuple #[.agg z0, .int .i64 fa]) (Se.results_row_tmp rfl _ _ N 66 _ (0, 0) _ _ rfl (setRow_heap _ N _ _ _ _ S9.out.row) Tryz.underlying66 rfl (Se.infoEnv hzs) rfl) rfl ⟨by rw [HRD.out, HZ.out], Sm.below_setRow S9.out.bel (Nat.le_refl _) _⟩
end Go.Proofs.YtibpgmcpcelmpaaGreatDoor
