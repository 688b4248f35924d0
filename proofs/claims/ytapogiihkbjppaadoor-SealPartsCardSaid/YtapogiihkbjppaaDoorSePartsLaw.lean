/-
  SealParts: an envelope's data are the text's stream under the key's own for that; another tag is refused.
-/
import Derived.Test.YtapogiihkbjppaaDoorSeOpen
import Derived.Test.YtapogiihkbjppaaDoorSeAwake
namespace Go.Proofs.YtapogiihkbjppaaDoor
open Go.RowKit Pk
namespace Se
theorem nonce_take (boot n j : Nat) (hj : j < 12) : (nonce boot n).take (j + 1) = (nonce boot n).take j ++ [if j < 4 then UInt8.ofNat (boot / 2 ^ (24 - 8 * j)) else UInt8.ofNat (n / 2 ^ (88 - 8 * j))] := by
  rw [List.take_succ_eq_append_getElem (by rw [nonce_length]; exact hj)]
  congr 2
  unfold nonce
  by_cases h : j < 4
  · rw [if_pos h, List.getElem_append_left (by simp; exact h)]
    simp
  · rw [if_neg h, List.getElem_append_right (by simp; omega)]
    simp only [List.length_map, List.length_range, List.getElem_map, List.getElem_range]
    rw [show 56 - 8 * (j - 4) = 88 - 8 * j by omega]
theorem xor_one (b : UInt8) : b ^^^ 1 ≠ b := by
  intro h
  have h1 := congrArg (b ^^^ ·) h
  simp only [← UInt8.xor_assoc, UInt8.xor_self, UInt8.zero_xor] at h1
  exact absurd h1 (by decide)
/-- An envelope whose tag's first byte is another. -/
def turned (x : Env) : Env := { x with tag := x.tag.set 0 (x.tag.getD 0 0 ^^^ 1) }
theorem turned_ok {x : Env} (ok : x.Ok) : (turned x).Ok := ⟨ok.key, ok.boot, ok.n, ok.data, by show (List.set _ _ _).length = 32; rw [List.length_set]; exact ok.tag⟩
theorem turned_tag {x : Env} (ok : x.Ok) : (turned x).tag ≠ x.tag := by
  intro h
  have h0 : (turned x).tag[0]? = x.tag[0]? := by rw [h]
  have hl : 0 < x.tag.length := by rw [ok.tag]; decide
  have e : x.tag[0]? = some (x.tag.getD 0 0) := by
    rw [List.getD_eq_getElem?_getD, List.getElem?_eq_getElem hl]; rfl
  have e1 : (turned x).tag[0]? = some (x.tag.getD 0 0 ^^^ 1) := by
    show (x.tag.set 0 (x.tag.getD 0 0 ^^^ 1))[0]? = _
    rw [List.getElem?_set_self hl]
  rw [e, e1] at h0
  exact xor_one _ (Option.some.inj h0)
theorem opened_turned {k : List UInt8} {x : Env} {about : List UInt8} (ok : x.Ok) (hr : x.Right) (ht : x.tag = tagOf k x about) : opened k (turned x) about = ([], 13) := by
  have e : tagOf k (turned x) about = tagOf k x about := tagOf_congr rfl rfl rfl rfl
  have hn : ¬ (turned x).tag = tagOf k (turned x) about := by
    rw [e, ← ht]; exact turned_tag ok
  have hr2 : (turned x).Right := ⟨hr.1, hr.2⟩
  unfold opened
  rw [if_pos hr2, if_neg hn]
theorem turned_cells (x : Env) : x.cells.toArray.setIfInBounds 4 (.int .u8 ((x.tag.getD 0 0 ^^^ 1).toNat : Int)) = (turned x).cells.toArray := by
  apply Array.ext'
  rw [Array.toList_setIfInBounds]
  show ([.int .i64 x.key, .int .u32 x.boot, .int .u64 x.n, .string x.data] ++ Lib.byteCells x.tag : List Value).set 4 _ = [.int .i64 x.key, .int .u32 x.boot, .int .u64 x.n, .string x.data] ++ Lib.byteCells (x.tag.set 0 (x.tag.getD 0 0 ^^^ 1))
  rw [List.set_append_right _ _ (by simp)]
  simp [Lib.byteCells, List.map_set]
end Se

set_option maxRecDepth 100000 in
set_option maxHeartbeats 4000000 in
theorem sealParts_some {w : World} (hH : Sm.HAt w) (hK : Sm.KAt w) (hsz : 1 < w.heap.size) (k : List UInt8) (hk : k.length = 32) (key : Int) (hkey : 0 ≤ key ∧ key ≤ 1048576) (boot n : Nat) (hb : boot < 2 ^ 32) (hn : n < 2 ^ 64) (about text : ByteArray) (ha : about.size ≤ 3000) (ht : text.size ≤ 3000) :
    Calls Tryd.prog 7 #[.agg (Lib.byteCells k).toArray, .int .i64 key, .int .u32 boot, .int .u64 n, .string about, .string text] w fun e w' => e = .returned (.bool true) ∧ Below w.heap.size w w' := by
  have HH := Lib.hid hH
  have HK := Lib.hid hK
  have htl : text.data.toList.length = text.size := by rw [Array.length_toList]; rfl
  obtain ⟨ck, hck⟩ : ∃ c, c = Lib.byteCells k := ⟨_, rfl⟩
  have hckl : ck.length = 32 := by rw [hck, Lib.byteCells_length, hk]
  obtain ⟨N, hN⟩ : ∃ N, N = w.heap.size := ⟨_, rfl⟩
  have hN1 : 1 < N := by omega
  have r1 : (w.alloc (.cells ck.toArray 23)).heap[N]? = some (.cells ck.toArray 23 (0, 0)) := by rw [hN]; exact heap_alloc_new w _
  have b1 : Below N w (w.alloc (.cells ck.toArray 23)) := by rw [hN]; exact Se.below_new w _
  have s1 : (w.alloc (.cells ck.toArray 23)).heap.size = N + 1 := by rw [hN]; simp
  have hicl : (Tryd.prog.info? 23).map (·.size) = some ck.toArray.size := by rw [List.size_toArray, hckl]; kernel_rfl
  have hick : (Tryd.prog.info? 23).map (·.size) = some ck.length := by rw [hckl]; kernel_rfl
  have hz1 := (zero_of_info Se.zeroEnv).1
  have hzs : Se.zero.cells.toArray.size = 36 := Se.cells_length _ (by rfl)
  obtain ⟨z0, hz0⟩ : ∃ z, z = Se.zero.cells.toArray := ⟨_, rfl⟩
  rw [← hz0] at hz1 hzs
  obtain ⟨zn, hzn⟩ : ∃ z, z = Sm.rowB 12 [] := ⟨_, rfl⟩
  have hz2 := (zero_of_info Se.zero12).1
  rw [← hzn] at hz2
  obtain ⟨en, hen⟩ : ∃ e, e = Se.sealed k key boot n about.data.toList text.data.toList := ⟨_, rfl⟩
  obtain ⟨ok, hr⟩ := Se.sealed_ok (k := k) (about := about.data.toList) hkey hb hn (show text.data.toList.length ≤ 8192 by omega)
  have hcl : Se.close k key boot n about.data.toList text.data.toList = (en, 0) := by
    unfold Se.close
    rw [if_pos hkey, if_pos (by omega), hen]
  have hda : en.data = ⟨(Se.strm k boot n text.data.toList).toArray⟩ := by rw [hen]; rfl
  have hst0 : en.tag = Se.tagOf k en about.data.toList := by rw [hen]; exact Se.sealed_tag k key boot n about.data.toList text.data.toList
  rw [← hen] at ok hr
  have hop := Se.opened_turned ok hr hst0
  obtain ⟨ce, hce⟩ : ∃ c, c = en.cells := ⟨_, rfl⟩
  have hcel : ce.length = 36 := by rw [hce]; exact Se.cells_length _ ok.tag
  have hceo : ce.toArray.all (·.oneCell') = true := by rw [hce]; exact Se.cells_one _
  have hes : ce.toArray.size = 36 := by rw [List.size_toArray, hcel]
  obtain ⟨ct, hct⟩ : ∃ c, c = (Se.turned en).cells := ⟨_, rfl⟩
  have hctl : ct.length = 36 := by rw [hct]; exact Se.cells_length _ (Se.turned_ok ok).tag
  have hts : ct.toArray.size = 36 := by rw [List.size_toArray, hctl]
  have CL : Hid (∀ wx : World, Sm.HAt wx → Sm.KAt wx → 1 < wx.heap.size → Calls Tryd.prog 8 #[.agg ck.toArray, .int .i64 key, .int .u32 boot, .int .u64 n, .string about, .string text] wx fun e w' => e = .returned (.tuple #[.agg ce.toArray, .int .i64 0]) ∧ Below wx.heap.size wx w') := fun wx a b c => by
    have q := close_any a b c k hk key (by omega) boot n hb hn about text (by omega) (by omega)
    rw [hcl] at q
    rw [hck, hce]
    exact q
  have OP : Hid (∀ wx : World, Sm.HAt wx → Sm.KAt wx → 1 < wx.heap.size → Calls Tryd.prog 9 #[.agg ck.toArray, .agg ct.toArray, .string about] wx fun e w' => e = .returned (.tuple #[.string ⟨#[]⟩, .int .i64 13]) ∧ Below wx.heap.size wx w') := fun wx a b c => by
    have q := open_any a b c k hk (Se.turned en) (Se.turned_ok ok) about (by omega)
    rw [hop] at q
    rw [hck, hct]
    exact q
  have AW : Hid (∀ wx : World, Sm.HAt wx → Sm.KAt wx → 1 < wx.heap.size → Calls Tryd.prog 12 #[] wx fun e w' => e = .returned (.bool true) ∧ Below wx.heap.size wx w') := fun wx h1 h2 h3 => awake5_any h1 h2 h3
  have hst : ∀ wx : World, (storeCells ⟨wx.heap.size, 0, none⟩ ce).run Tryd.prog (wx.alloc (.cells z0 28)) = .ok () (wx.alloc (.cells ce.toArray 28)) := fun wx =>
    run_storeCells_new (P := Tryd.prog) wx 28 z0 _ (Se.infoEnv hes) (by rw [hes]; exact hzs) hceo
  obtain ⟨cn, hcn⟩ : ∃ c, c = Lib.byteCells (Se.nonce boot n) := ⟨_, rfl⟩
  have hcnl : cn.length = 12 := by rw [hcn, Lib.byteCells_length, Se.nonce_length]
  have hicn : (Tryd.prog.info? 47).map (·.size) = some cn.length := by rw [hcnl]; kernel_rfl
  obtain ⟨cu, hcu⟩ : ∃ c, c = Lib.byteCells (Sm.tag k Se.encL) := ⟨_, rfl⟩
  have KY : Hid (∀ wx : World, Sm.HAt wx → Sm.KAt wx → 1 < wx.heap.size → Calls Tryd.prog 18 #[.agg ck.toArray, .string ⟨#[101, 110, 99]⟩] wx fun e w' => e = .returned (.agg cu.toArray) ∧ Below wx.heap.size wx w') := fun wx a b c => by
    rw [hck, hcu]; exact key_any k hk ⟨#[101, 110, 99]⟩ a b c (by decide)
  have ST : Hid (∀ wx : World, Calls Tryd.prog 17 #[.agg cu.toArray, .agg cn.toArray, .string text] wx fun e w' => e = .returned (.string en.data) ∧ Below wx.heap.size wx w') := fun wx => by
    rw [hcu, hcn, hda]; exact stream_any wx (Sm.tag k Se.encL) (Se.nonce boot n) (Sm.tag_length _ _) (Se.nonce_length _ _) text (by omega)
  have hcd : ce.toArray[3]? = some (.string en.data) := by rw [hce]; rfl
  have hct4 : ce.toArray[4]? = some (.int .u8 ((en.tag.getD 0 0).toNat : Int)) := by
    rw [hce, List.getElem?_toArray]
    show (([.int .i64 en.key, .int .u32 en.boot, .int .u64 en.n, .string en.data] : List Value) ++ Lib.byteCells en.tag)[4 + 0]? = _
    rw [List.getElem?_append_right (by simp)]
    show (Lib.byteCells en.tag)[0]? = _
    exact Sm.byteCells_get (by rw [ok.tag]; decide)
  have hset : ce.toArray.setIfInBounds 4 (.int .u8 ((en.tag.getD 0 0 ^^^ 1).toNat : Int)) = ct.toArray := by rw [hce, hct]; exact Se.turned_cells en
  have hxor : bits .xor .u8 ((en.tag.getD 0 0).toNat : Int) 1 = ((en.tag.getD 0 0 ^^^ 1).toNat : Int) := Sm.w_xor8 _ 1
  obtain ⟨t0, ht0⟩ : ∃ x, x = en.tag.getD 0 0 := ⟨_, rfl⟩
  rw [← ht0] at hct4 hset hxor
  obtain ⟨t1, ht1⟩ : ∃ x, x = t0 ^^^ 1 := ⟨_, rfl⟩
  rw [← ht1] at hset hxor
  obtain ⟨dx, hdx⟩ : ∃ d, d = en.data := ⟨_, rfl⟩
  rw [← hdx] at ST hcd
  rw [← hck, ← hN]
  have HCN := Lib.hid hcn
  have HN := Lib.hid hN
  have R1 := Lib.hid r1
  have B1 := Lib.hid b1
  have HSET := Lib.hid hset
  have g1 : ¬ (3000 : Int) < about.size := by omega
  have g2 : ¬ (3000 : Int) < text.size := by omega
  have g3 : ¬ key < 0 := by omega
  have g4 : ¬ 1048576 < key := by omega
  have hzrow : Sm.rowB 12 ((Se.nonce boot n).take 0) = zn := by rw [hzn]; rfl
  have HZR := Lib.hid hzrow
  clear hst0 hz0 hzn hen ok hr hcl hop hda hce hct hcn hcu ht0 ht1 hdx hset hzrow hH hK hck hN r1 b1 htl hcel hctl hkey
  go_enter Tryd.func7, Tryd.ntmps7
  go_upto_region 1 with (fail)
  rw [← HN.out]
  generalize w.alloc (.cells ck.toArray 23) = W1 at *
  go_wp2_with fail
  refine (AW.out _ (HH.out.low B1.out (by omega)) (HK.out.low B1.out hN1) (by omega)).mono ?_
  rintro e w2 ⟨rfl, k2⟩
  have R2 := Lib.hid ((k2.block N (by omega)).trans R1.out)
  have B2 := Lib.hid (B1.out.trans (k2.mono (by omega)))
  have s2 := k2.size
  clear k2 R1 B1 AW
  go_wp2_with (with_reducible refine wpList_load_row rfl 23 (.tmp 6) rfl N rfl 23 ck.toArray (0, 0) _ (by exact R2.out) Tryd.underlying23 rfl hicl ?_)
  refine (CL.out _ (HH.out.low B2.out (by omega)) (HK.out.low B2.out hN1) (by omega)).mono ?_
  rintro e w3 ⟨rfl, k3⟩
  have R3 := Lib.hid ((k3.block N (by omega)).trans R2.out)
  have B3 := Lib.hid (B2.out.trans (k3.mono (by omega)))
  have s3 := k3.size
  have hst3 := hst w3
  clear k3 R2 B2 CL
  go_upto_region 6 with (fail)
  have P4 := Lib.hid (heap_alloc_new w3 (.cells ce.toArray 28))
  have R4 := Lib.hid ((Below.heap_alloc w3 (.cells ce.toArray 28) N (by omega)).trans R3.out)
  have B4 := Lib.hid (B3.out.alloc (by omega) (.cells ce.toArray 28))
  have s4 : (w3.alloc (.cells ce.toArray 28)).heap.size = w3.heap.size + 1 := by simp
  clear hst3 R3 B3
  generalize w3.alloc (.cells ce.toArray 28) = w4 at *
  obtain ⟨M, hM⟩ : ∃ M, M = w3.heap.size := ⟨_, rfl⟩
  rw [← hM] at P4 s4 ⊢
  have hNM : N < M := by omega
  clear hM s3
  go_upto_region 7 with (fail)
  have Q5 : Hid ((w4.alloc (.cells zn 47)).heap[M + 1]? = some (.cells (Sm.rowB 12 ((Se.nonce boot n).take 0)) 47 (0, 0))) := by
    show _ = _
    rw [HZR.out, ← s4]; exact heap_alloc_new w4 _
  have P5 := Lib.hid ((Below.heap_alloc w4 (.cells zn 47) M (by omega)).trans P4.out)
  have R5 := Lib.hid ((Below.heap_alloc w4 (.cells zn 47) N (by omega)).trans R4.out)
  have B5 := Lib.hid (B4.out.alloc (by omega) (.cells zn 47))
  have s5 : (w4.alloc (.cells zn 47)).heap.size = M + 2 := by simp [s4]
  clear P4 R4 B4 hz2 HZR
  generalize w4.alloc (.cells zn 47) = w5 at *
  go_wp2_with fail
  go_loopw [16] (fun i wr => ∃ j : Nat, j ≤ 12 ∧ i = .int .i64 j ∧ wr.heap[M + 1]? = some (.cells (Sm.rowB 12 ((Se.nonce boot n).take j)) 47 (0, 0)) ∧ Below (M + 1) w5 wr) (fun i _ => 12 - (intOf i).toNat)
  case atStart => exact ⟨0, by omega, rfl, Q5.out, Below.refl _ _⟩
  case round =>
    clear Q5
    obtain ⟨j, hj, rfl, hr2, hbk⟩ := hrel
    have HR2 := Lib.hid hr2
    clear hr2
    by_cases hlt : j < 12
    · have q1 : (j : Int) < 12 := by omega
      have hl : ((Se.nonce boot n).take j).length = j := by rw [List.length_take, Se.nonce_length]; omega
      obtain ⟨old, hold⟩ := Sm.rowB_some (n := 12) (l := (Se.nonce boot n).take j) j (by omega) (by omega)
      have hold := Sm.cells_of HR2.out j old hold
      have fz := Sm.free_of HR2.out j
      have v1 : IntKind.i64.wrap (8 * (j : Int)) = 8 * (j : Int) := IntWalk.i64_in _ (by omega)
      by_cases h4 : j < 4
      · have q4 : (j : Int) < 4 := by omega
        have v2 : IntKind.i64.wrap (24 - 8 * (j : Int)) = 24 - 8 * (j : Int) := IntWalk.i64_in _ (by omega)
        have v3 : IntKind.u64.wrap (24 - 8 * (j : Int)) = 24 - 8 * (j : Int) := by rw [IntKind.wrap_u64]; omega
        have p1 : 0 ≤ 24 - 8 * (j : Int) := by omega
        have p2 : 8 * (j : Int) ≤ 24 := by omega
        go_wp2_with fail
        go_roundw
        case rel =>
          refine ⟨j + 1, by omega, by go_num, ?_, hbk.setCell (p := ⟨M + 1, j, none⟩) (Nat.le_refl _) _⟩
          have e := Sm.rowB_set (n := 12) (l := (Se.nonce boot n).take j) (by omega) (UInt8.ofNat (boot / 2 ^ (24 - 8 * j)))
          rw [hl] at e
          rw [Se.nonce_take _ _ _ hlt, if_pos h4, ← e, Se.shr_byte]
          exact Sm.heap_set HR2.out j _
        case measure => simp [intOf]; omega
      · have q4 : ¬ (j : Int) < 4 := by omega
        have v2 : IntKind.i64.wrap (88 - 8 * (j : Int)) = 88 - 8 * (j : Int) := IntWalk.i64_in _ (by omega)
        have v3 : IntKind.u64.wrap (88 - 8 * (j : Int)) = 88 - 8 * (j : Int) := by rw [IntKind.wrap_u64]; omega
        have p1 : 0 ≤ 88 - 8 * (j : Int) := by omega
        have p2 : 8 * (j : Int) ≤ 88 := by omega
        go_wp2_with fail
        go_roundw
        case rel =>
          refine ⟨j + 1, by omega, by go_num, ?_, hbk.setCell (p := ⟨M + 1, j, none⟩) (Nat.le_refl _) _⟩
          have e := Sm.rowB_set (n := 12) (l := (Se.nonce boot n).take j) (by omega) (UInt8.ofNat (n / 2 ^ (88 - 8 * j)))
          rw [hl] at e
          rw [Se.nonce_take _ _ _ hlt, if_neg h4, ← e, Se.shr_byte]
          exact Sm.heap_set HR2.out j _
        case measure => simp [intOf]; omega
    · obtain rfl : j = 12 := by omega
      have q1 : ¬ ((12 : Nat) : Int) < 12 := by omega
      have hr := HR2.out
      rw [List.take_of_length_le (by rw [Se.nonce_length]; exact Nat.le_refl _), Sm.rowB_full (Se.nonce_length _ _), ← HCN.out] at hr
      have Q6 := Lib.hid hr
      have P6 := Lib.hid ((hbk.block M (by omega)).trans P5.out)
      have R6 := Lib.hid ((hbk.block N (by omega)).trans R5.out)
      have B6 := Lib.hid (B5.out.trans (hbk.mono (by omega)))
      have s6 := hbk.size
      have hst6 := hst wr
      clear hr HR2 hbk P5 R5 B5 hst hlt hj
      go_upto_region 14 with (with_reducible refine wpList_load_row rfl 28 (.tmp 13) rfl M rfl 28 ce.toArray (0, 0) _ (by exact P6.out) Tryd.underlying28 rfl (Se.infoEnv hes) ?_)
      have Y7 := Lib.hid (heap_alloc_new wr (.cells ce.toArray 28))
      have P7 := Lib.hid ((Below.heap_alloc wr (.cells ce.toArray 28) M (by omega)).trans P6.out)
      have Q7 := Lib.hid ((Below.heap_alloc wr (.cells ce.toArray 28) (M + 1) (by omega)).trans Q6.out)
      have R7 := Lib.hid ((Below.heap_alloc wr (.cells ce.toArray 28) N (by omega)).trans R6.out)
      have B7 := Lib.hid (B6.out.alloc (by omega) (.cells ce.toArray 28))
      clear hst6 P6 Q6 R6 B6 hz1
      generalize wr.alloc (.cells ce.toArray 28) = w7 at *
      obtain ⟨Y, hY⟩ : ∃ Y, Y = wr.heap.size := ⟨_, rfl⟩
      rw [← hY] at Y7 ⊢
      have hMY : M + 1 < Y := by omega
      clear hY
      have c4 := Sm.cells_of Y7.out 4 _ hct4
      have f4 := Sm.free_of Y7.out 4
      have y8 := Sm.heap_set Y7.out 4 (.int .u8 (t1.toNat : Int))
      rw [HSET.out] at y8
      have Y8 := Lib.hid y8
      have P8 := Lib.hid ((Below.heap_setCell w7 ⟨Y, 4, none⟩ (.int .u8 (t1.toNat : Int)) M (by show M ≠ Y; omega)).trans P7.out)
      have Q8 := Lib.hid ((Below.heap_setCell w7 ⟨Y, 4, none⟩ (.int .u8 (t1.toNat : Int)) (M + 1) (by show M + 1 ≠ Y; omega)).trans Q7.out)
      have R8 := Lib.hid ((Below.heap_setCell w7 ⟨Y, 4, none⟩ (.int .u8 (t1.toNat : Int)) N (by show N ≠ Y; omega)).trans R7.out)
      have B8 := Lib.hid (B7.out.setCell (p := ⟨Y, 4, none⟩) (by show N ≤ Y; omega) (.int .u8 (t1.toNat : Int)))
      clear y8 P7 Q7 R7 B7 Y7
      go_upto_region 15 with (fail)
      clear c4 f4
      generalize w7.setCell ⟨Y, 4, none⟩ (.int .u8 (t1.toNat : Int)) = w8 at *
      have s8 := Sm.lt_of Y8.out
      go_wp2_with (first | (with_reducible refine wpList_load_row rfl 23 (.tmp 6) rfl N rfl 23 ck.toArray (0, 0) _ (by exact R8.out) Tryd.underlying23 rfl hicl ?_) | (with_reducible refine wpList_load_row rfl 28 (.tmp 17) rfl Y rfl 28 ct.toArray (0, 0) _ (by exact Y8.out) Tryd.underlying28 rfl (Se.infoEnv hts) ?_))
      refine (OP.out _ (HH.out.low B8.out (by omega)) (HK.out.low B8.out hN1) (by omega)).mono ?_
      rintro e w9 ⟨rfl, k9⟩
      have P9 : Hid (w9.drew.heap[M]? = some (.cells ce.toArray 28 (0, 0))) := (k9.block M (by omega)).trans P8.out
      have Q9 : Hid (w9.drew.heap[M + 1]? = some (.cells cn.toArray 47 (0, 0))) := (k9.block (M + 1) (by omega)).trans Q8.out
      have R9 : Hid (w9.drew.heap[N]? = some (.cells ck.toArray 23 (0, 0))) := (k9.block N (by omega)).trans R8.out
      have B9 : Hid (Below N w w9.drew) := (B8.out.trans (k9.mono (by omega))).drew
      clear k9 P8 Q8 R8 B8 OP Y8
      go_upto_region 16 with (fail)
      refine wp_region_held_drew (S := fun w' => w'.heap[M]? = some (.cells ce.toArray 28 (0, 0)) ∧ w'.heap[M + 1]? = some (.cells cn.toArray 47 (0, 0)) ∧ w'.heap[N]? = some (.cells ck.toArray 23 (0, 0))) (by kernel_rfl) ⟨P9.out, Q9.out, R9.out⟩ (fun hHeld => ?_)
      generalize w9.drew = W0 at *
      refine wpAnyH_take (i := 0) (oi := ⟨some 86, _, _, _, _, _⟩) (v := .int .i64 0) rfl (by kernel_rfl) (by kernel_rfl) (by kernel_rfl) (fun _ _ _ h => h) (Or.inl ⟨by rfl, ?_⟩) (by assumption) ?_
      · intro w hSw; (try dsimp only at hSw); go_simp
      simp only [Act.put, List.setIfInBounds_toArray, List.set_cons_zero, List.set_cons_succ]
      refine wpAnyH_take (i := 1) (oi := ⟨some 87, _, _, _, _, _⟩) (v := .bool true) rfl (by kernel_rfl) (by kernel_rfl) (by kernel_rfl) (fun _ _ _ h => h) (Or.inl ⟨by rfl, ?_⟩) (by assumption) ?_
      · intro w hSw; (try dsimp only at hSw); go_simp
      simp only [Act.put, List.setIfInBounds_toArray, List.set_cons_zero, List.set_cons_succ]
      refine wpAnyH_take (i := 2) (oi := ⟨some 88, _, _, _, _, _⟩) (v := .bool true) rfl (by kernel_rfl) (by kernel_rfl) (by kernel_rfl) (fun _ _ _ h => h) (Or.inl ⟨by rfl, ?_⟩) (by assumption) ?_
      · intro w hSw; (try dsimp only at hSw); go_simp
      simp only [Act.put, List.setIfInBounds_toArray, List.set_cons_zero, List.set_cons_succ]
      refine wpAnyH_take (i := 3) (oi := ⟨some 89, _, _, _, _, _⟩) (v := .pointer (some ⟨M, 3, none⟩)) rfl (by kernel_rfl) (by kernel_rfl) (by kernel_rfl) (fun _ _ _ h => h) (Or.inl ⟨by rfl, ?_⟩) (by assumption) ?_
      · intro w hSw; (try dsimp only at hSw); go_simp
      simp only [Act.put, List.setIfInBounds_toArray, List.set_cons_zero, List.set_cons_succ]
      refine wpAnyH_take (i := 4) (oi := ⟨some 90, _, _, _, _, _⟩) (v := .string dx) rfl (by kernel_rfl) (by kernel_rfl) (by kernel_rfl) (fun _ _ _ h => h) (Or.inl ⟨by rfl, ?_⟩) (by assumption) ?_
      · intro w hSw; (try dsimp only at hSw); have c := Sm.cells_of hSw.1 3 _ hcd; go_simp
      simp only [Act.put, List.setIfInBounds_toArray, List.set_cons_zero, List.set_cons_succ]
      refine wpAnyH_take (i := 5) (oi := ⟨some 91, _, _, _, _, _⟩) (v := .agg ck.toArray) rfl (by kernel_rfl) (by kernel_rfl) (by kernel_rfl) (fun _ _ _ h => h) (yieldsIf_load_mid (by rfl) _ _ rfl _ _ rfl ck _ (fun w hS => Sm.range_row hS.2.2) Tryd.underlying23 rfl hick) (by assumption) ?_
      simp only [Act.put, List.setIfInBounds_toArray, List.set_cons_zero, List.set_cons_succ]
      refine wpAnyH_take (i := 7) (oi := ⟨some 93, _, _, _, _, _⟩) (v := .agg cn.toArray) rfl (by kernel_rfl) (by kernel_rfl) (by kernel_rfl) (fun _ _ _ h => h) (yieldsIf_load_mid (by rfl) _ _ rfl _ _ rfl cn _ (fun w hS => Sm.range_row hS.2.1) Tryd.underlying47 rfl hicn) (by assumption) ?_
      simp only [Act.put, List.setIfInBounds_toArray, List.set_cons_zero, List.set_cons_succ]
      refine wpAnyH_take (i := 8) (oi := ⟨some 94, _, _, _, _, _⟩) (v := .string text) rfl (by kernel_rfl) (by kernel_rfl) (by kernel_rfl) (fun _ _ _ h => h) (Or.inl ⟨by rfl, ?_⟩) (by assumption) ?_
      · intro w hSw; (try dsimp only at hSw); go_simp
      simp only [Act.put, List.setIfInBounds_toArray, List.set_cons_zero, List.set_cons_succ]
      refine wpAnyH_ready (rs := [6]) (by kernel_rfl) (by simp) ?_
      refine (AllReadyH.cons (o := ⟨some 92, _, _, _, _, _⟩) rfl (fun K hK => ?_) AllReadyH.nil)
      go_simp
      refine (KY.out _ (HH.out.low B9.out (by omega)) (HK.out.low B9.out hN1) (by have := Sm.lt_of R9.out; omega)).mono ?_
      rintro e w10 ⟨rfl, kw10⟩
      have Pw10 := Lib.hid ((kw10.block M (Sm.lt_of P9.out)).trans P9.out)
      have Qw10 := Lib.hid ((kw10.block (M + 1) (Sm.lt_of Q9.out)).trans Q9.out)
      have Rw10 := Lib.hid ((kw10.block N (Sm.lt_of R9.out)).trans R9.out)
      have Bw10 := Lib.hid (B9.out.trans (kw10.mono (by have := Sm.lt_of R9.out; omega)))
      clear kw10
      refine hK.out _ _ ⟨Pw10.out, Qw10.out, Rw10.out⟩ (fun hHeld => ?_)
      clear hK K
      refine wpAnyH_ready (rs := [9]) (by kernel_rfl) (by simp) ?_
      refine (AllReadyH.cons (o := ⟨some 95, _, _, _, _, _⟩) rfl (fun K hK => ?_) AllReadyH.nil)
      go_simp
      refine (ST.out _).mono ?_
      rintro e w11 ⟨rfl, kw11⟩
      have Pw11 := Lib.hid ((kw11.block M (Sm.lt_of Pw10.out)).trans Pw10.out)
      have Qw11 := Lib.hid ((kw11.block (M + 1) (Sm.lt_of Qw10.out)).trans Qw10.out)
      have Rw11 := Lib.hid ((kw11.block N (Sm.lt_of Rw10.out)).trans Rw10.out)
      have Bw11 := Lib.hid (Bw10.out.trans (kw11.mono (by have := Sm.lt_of Rw10.out; omega)))
      clear kw11
      refine hK.out _ _ ⟨Pw11.out, Qw11.out, Rw11.out⟩ (fun hHeld => ?_)
      clear hK K
      refine wpAnyH_take (i := 10) (oi := ⟨some 96, _, _, _, _, _⟩) (v := .bool true) rfl (by kernel_rfl) (by kernel_rfl) (by kernel_rfl) (fun _ _ _ h => h) (Or.inl ⟨by rfl, ?_⟩) (by assumption) ?_
      · intro w hSw; (try dsimp only at hSw); go_simp
      simp only [Act.put, List.setIfInBounds_toArray, List.set_cons_zero, List.set_cons_succ]
      refine wpAnyH_take (i := 11) (oi := ⟨some 97, _, _, _, _, _⟩) (v := .bool true) rfl (by kernel_rfl) (by kernel_rfl) (by kernel_rfl) (fun _ _ _ h => h) (Or.inl ⟨by rfl, ?_⟩) (by assumption) ?_
      · intro w hSw; (try dsimp only at hSw); go_simp
      simp only [Act.put, List.setIfInBounds_toArray, List.set_cons_zero, List.set_cons_succ]
      refine wpAnyH_take (i := 12) (oi := ⟨some 98, _, _, _, _, _⟩) (v := .bool true) rfl (by kernel_rfl) (by kernel_rfl) (by kernel_rfl) (fun _ _ _ h => h) (Or.inl ⟨by rfl, ?_⟩) (by assumption) ?_
      · intro w hSw; (try dsimp only at hSw); go_simp
      simp only [Act.put, List.setIfInBounds_toArray, List.set_cons_zero, List.set_cons_succ]
      refine wpAnyH_take (i := 13) (oi := ⟨some 99, _, _, _, _, _⟩) (v := .int .i64 13) rfl (by kernel_rfl) (by kernel_rfl) (by kernel_rfl) (fun _ _ _ h => h) (Or.inl ⟨by rfl, ?_⟩) (by assumption) ?_
      · intro w hSw; (try dsimp only at hSw); go_simp
      simp only [Act.put, List.setIfInBounds_toArray, List.set_cons_zero, List.set_cons_succ]
      refine wpAnyH_take (i := 14) (oi := ⟨some 100, _, _, _, _, _⟩) (v := .bool true) rfl (by kernel_rfl) (by kernel_rfl) (by kernel_rfl) (fun _ _ _ h => h) (Or.inl ⟨by rfl, ?_⟩) (by assumption) ?_
      · intro w hSw; (try dsimp only at hSw); go_simp
      simp only [Act.put, List.setIfInBounds_toArray, List.set_cons_zero, List.set_cons_succ]
      refine wpAnyH_take (i := 15) (oi := ⟨some 101, _, _, _, _, _⟩) (v := .bool true) rfl (by kernel_rfl) (by kernel_rfl) (by kernel_rfl) (fun _ _ _ h => h) (Or.inl ⟨by rfl, ?_⟩) (by assumption) ?_
      · intro w hSw; (try dsimp only at hSw); go_simp
      simp only [Act.put, List.setIfInBounds_toArray, List.set_cons_zero, List.set_cons_succ]
      refine wpAnyH_take (i := 16) (oi := ⟨some 12, _, _, _, _, _⟩) (v := .bool true) rfl (by kernel_rfl) (by kernel_rfl) (by kernel_rfl) (fun _ _ _ h => h) (Or.inl ⟨by rfl, ?_⟩) (by assumption) ?_
      · intro w hSw; (try dsimp only at hSw); go_simp
      simp only [Act.put, List.setIfInBounds_toArray, List.set_cons_zero, List.set_cons_succ]
      refine wpAnyH_done (by kernel_rfl) ?_ _
      go_wp2
      go_ret
      exact ⟨rfl, Bw11.out⟩

set_option maxRecDepth 100000 in
set_option maxHeartbeats 2000000 in
theorem sealParts_any {w : World} (hH : Sm.HAt w) (hK : Sm.KAt w) (hsz : 1 < w.heap.size) (k : List UInt8) (hk : k.length = 32) (key : Int) (boot n : Nat) (hb : boot < 2 ^ 32) (hn : n < 2 ^ 64) (about text : ByteArray) :
    Calls Tryd.prog 7 #[.agg (Lib.byteCells k).toArray, .int .i64 key, .int .u32 boot, .int .u64 n, .string about, .string text] w fun e w' => e = .returned (.bool true) ∧ Below w.heap.size w w' := by
  by_cases h1 : about.size ≤ 3000
  · have g1 : ¬ (3000 : Int) < about.size := by omega
    by_cases h2 : text.size ≤ 3000
    · have g2 : ¬ (3000 : Int) < text.size := by omega
      by_cases h3 : 0 ≤ key
      · have g3 : ¬ key < 0 := by omega
        by_cases h4 : key ≤ 1048576
        · exact sealParts_some hH hK hsz k hk key ⟨h3, h4⟩ boot n hb hn about text h1 h2
        · have g4 : 1048576 < key := by omega
          obtain ⟨ck, hck⟩ : ∃ c, c = (Lib.byteCells k).toArray := ⟨_, rfl⟩
          obtain ⟨N, hN⟩ : ∃ N, N = w.heap.size := ⟨_, rfl⟩
          rw [← hck, ← hN]
          have b1 : Below N w (w.alloc (.cells ck 23)) := by rw [hN]; exact Se.below_new w _
          have s1 : (w.alloc (.cells ck 23)).heap.size = N + 1 := by rw [hN]; simp
          have hN1 : 1 < N := by omega
          have B1 := Lib.hid b1
          have HH := Lib.hid hH
          have HK := Lib.hid hK
          have AW : Hid (∀ wx : World, Sm.HAt wx → Sm.KAt wx → 1 < wx.heap.size → Calls Tryd.prog 12 #[] wx fun e w' => e = .returned (.bool true) ∧ Below wx.heap.size wx w') := fun wx h1 h2 h3 => awake5_any h1 h2 h3
          clear hck b1 hN hH hK
          go_enter Tryd.func7, Tryd.ntmps7
          go_upto_region 1 with (fail)
          generalize w.alloc (.cells ck 23) = W1 at *
          go_wp2_with fail
          refine (AW.out _ (HH.out.low B1.out (by omega)) (HK.out.low B1.out hN1) (by omega)).mono ?_
          rintro e w2 ⟨rfl, k2⟩
          go_wp2
          go_ret
          exact ⟨rfl, B1.out.trans (k2.mono (by omega))⟩
      · have g3 : key < 0 := by omega
        obtain ⟨ck, hck⟩ : ∃ c, c = (Lib.byteCells k).toArray := ⟨_, rfl⟩
        obtain ⟨N, hN⟩ : ∃ N, N = w.heap.size := ⟨_, rfl⟩
        rw [← hck, ← hN]
        have b1 : Below N w (w.alloc (.cells ck 23)) := by rw [hN]; exact Se.below_new w _
        have s1 : (w.alloc (.cells ck 23)).heap.size = N + 1 := by rw [hN]; simp
        have hN1 : 1 < N := by omega
        have B1 := Lib.hid b1
        have HH := Lib.hid hH
        have HK := Lib.hid hK
        have AW : Hid (∀ wx : World, Sm.HAt wx → Sm.KAt wx → 1 < wx.heap.size → Calls Tryd.prog 12 #[] wx fun e w' => e = .returned (.bool true) ∧ Below wx.heap.size wx w') := fun wx h1 h2 h3 => awake5_any h1 h2 h3
        clear hck b1 hN hH hK
        go_enter Tryd.func7, Tryd.ntmps7
        go_upto_region 1 with (fail)
        generalize w.alloc (.cells ck 23) = W1 at *
        go_wp2_with fail
        refine (AW.out _ (HH.out.low B1.out (by omega)) (HK.out.low B1.out hN1) (by omega)).mono ?_
        rintro e w2 ⟨rfl, k2⟩
        go_wp2
        go_ret
        exact ⟨rfl, B1.out.trans (k2.mono (by omega))⟩
    · have g2 : (3000 : Int) < text.size := by omega
      obtain ⟨ck, hck⟩ : ∃ c, c = (Lib.byteCells k).toArray := ⟨_, rfl⟩
      obtain ⟨N, hN⟩ : ∃ N, N = w.heap.size := ⟨_, rfl⟩
      rw [← hck, ← hN]
      have b1 : Below N w (w.alloc (.cells ck 23)) := by rw [hN]; exact Se.below_new w _
      have s1 : (w.alloc (.cells ck 23)).heap.size = N + 1 := by rw [hN]; simp
      have hN1 : 1 < N := by omega
      have B1 := Lib.hid b1
      have HH := Lib.hid hH
      have HK := Lib.hid hK
      have AW : Hid (∀ wx : World, Sm.HAt wx → Sm.KAt wx → 1 < wx.heap.size → Calls Tryd.prog 12 #[] wx fun e w' => e = .returned (.bool true) ∧ Below wx.heap.size wx w') := fun wx h1 h2 h3 => awake5_any h1 h2 h3
      clear hck b1 hN hH hK
      go_enter Tryd.func7, Tryd.ntmps7
      go_upto_region 1 with (fail)
      generalize w.alloc (.cells ck 23) = W1 at *
      go_wp2_with fail
      refine (AW.out _ (HH.out.low B1.out (by omega)) (HK.out.low B1.out hN1) (by omega)).mono ?_
      rintro e w2 ⟨rfl, k2⟩
      go_wp2
      go_ret
      exact ⟨rfl, B1.out.trans (k2.mono (by omega))⟩
  · have g1 : (3000 : Int) < about.size := by omega
    obtain ⟨ck, hck⟩ : ∃ c, c = (Lib.byteCells k).toArray := ⟨_, rfl⟩
    obtain ⟨N, hN⟩ : ∃ N, N = w.heap.size := ⟨_, rfl⟩
    rw [← hck, ← hN]
    have b1 : Below N w (w.alloc (.cells ck 23)) := by rw [hN]; exact Se.below_new w _
    have s1 : (w.alloc (.cells ck 23)).heap.size = N + 1 := by rw [hN]; simp
    have hN1 : 1 < N := by omega
    have B1 := Lib.hid b1
    have HH := Lib.hid hH
    have HK := Lib.hid hK
    have AW : Hid (∀ wx : World, Sm.HAt wx → Sm.KAt wx → 1 < wx.heap.size → Calls Tryd.prog 12 #[] wx fun e w' => e = .returned (.bool true) ∧ Below wx.heap.size wx w') := fun wx h1 h2 h3 => awake5_any h1 h2 h3
    clear hck b1 hN hH hK
    go_enter Tryd.func7, Tryd.ntmps7
    go_upto_region 1 with (fail)
    generalize w.alloc (.cells ck 23) = W1 at *
    go_wp2_with fail
    refine (AW.out _ (HH.out.low B1.out (by omega)) (HK.out.low B1.out hN1) (by omega)).mono ?_
    rintro e w2 ⟨rfl, k2⟩
    go_wp2
    go_ret
    exact ⟨rfl, B1.out.trans (k2.mono (by omega))⟩
end Go.Proofs.YtapogiihkbjppaaDoor
