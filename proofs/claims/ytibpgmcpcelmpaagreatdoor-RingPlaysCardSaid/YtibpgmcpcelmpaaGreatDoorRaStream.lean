/-
  What the document's Stream answers.
-/
import Derived.Test.YtibpgmcpcelmpaaGreatDoorRaBlock
import Derived.Test.YtibpgmcpcelmpaaGreatDoorMAes2
namespace Go.Proofs.YtibpgmcpcelmpaaGreatDoor
open Go.RowKit
namespace Ae
theorem stream_snoc (key nonce t : List UInt8) (k : Nat) (h : k < t.length) : (stream key nonce t).take (k + 1) = (stream key nonce t).take k ++ [t.getD k 0 ^^^ sbyte key nonce k] := by
  rw [List.take_add_one]
  congr 1
  have h2 : k < (stream key nonce t).length := by rw [stream_length]; exact h
  have h3 := stream_get key nonce t k h
  rw [List.getD_eq_getElem?_getD, List.getElem?_eq_getElem h2] at h3
  rw [List.getElem?_eq_getElem h2]
  simpa using h3
theorem infoKey32 {c : Array Value} (h : c.size = 32) : (Tryz.prog.info? 63).map (·.size) = some c.size := by rw [h]; kernel_rfl
theorem ctr_bytes (nonce : List UInt8) (k : Nat) (h : nonce.length = 12) : bytes (ctrW nonce k) = nonce ++ [UInt8.ofNat (k / 16777216), UInt8.ofNat (k / 65536), UInt8.ofNat (k / 256), UInt8.ofNat k] := by
  have hl : (nonce ++ [UInt8.ofNat (k / 16777216), UInt8.ofNat (k / 65536), UInt8.ofNat (k / 256), UInt8.ofNat k]).length = 16 := by simp [h]
  refine Eq.trans (congrArg bytes ?_) (bytes_cols _ hl)
  have hw : ∀ i, i < 3 → Sm.word (nonce ++ [UInt8.ofNat (k / 16777216), UInt8.ofNat (k / 65536), UInt8.ofNat (k / 256), UInt8.ofNat k]) i = Sm.word nonce i := fun i hi => by
    unfold Sm.word
    simp only [List.getD_eq_getElem?_getD]
    rw [List.getElem?_append_left (by omega), List.getElem?_append_left (by omega), List.getElem?_append_left (by omega), List.getElem?_append_left (by omega)]
  have h3 : Sm.word (nonce ++ [UInt8.ofNat (k / 16777216), UInt8.ofNat (k / 65536), UInt8.ofNat (k / 256), UInt8.ofNat k]) 3 = k % 4294967296 := by
    unfold Sm.word
    simp only [List.getD_eq_getElem?_getD]
    rw [List.getElem?_append_right (by omega), List.getElem?_append_right (by omega), List.getElem?_append_right (by omega), List.getElem?_append_right (by omega)]
    simp only [h]
    show Sm.be4 (UInt8.ofNat _).toNat (UInt8.ofNat _).toNat (UInt8.ofNat _).toNat (UInt8.ofNat _).toNat = _
    simp only [UInt8.toNat_ofNat']
    unfold Sm.be4
    omega
  show _ = [Sm.word _ 0, Sm.word _ 1, Sm.word _ 2, Sm.word _ 3]
  rw [hw 0 (by decide), hw 1 (by decide), hw 2 (by decide), h3, ctrW]
theorem ctr_cells (nonce : List UInt8) (k : Nat) (h : nonce.length = 12) : Lib.byteCells nonce ++ [Value.int .u8 ((k : Int) / 16777216 % 256), .int .u8 ((k : Int) / 65536 % 256), .int .u8 ((k : Int) / 256 % 256), .int .u8 ((k : Int) % 256)] = Lib.byteCells (bytes (ctrW nonce k)) := by
  rw [ctr_bytes nonce k h, Lib.byteCells_append]
  congr 1
theorem own_at16 {w : World} {N : Nat} {A : Option Addr} {c : Nat} {l : List UInt8} (h : w.ownsRow N 5 1 (.slice A 16 c) 16 (Lib.byteCells l)) : ∃ gs, A = some ⟨gs, 0, none⟩ ∧ N ≤ gs ∧ BytesAt w gs l := by
  rcases h.2 with ⟨_, hn⟩ | ⟨g, cap, cur, hv, hBg, _⟩
  · omega
  · simp only [Value.slice.injEq] at hv
    obtain ⟨rfl, -, rfl⟩ := hv
    refine ⟨g, rfl, hBg, fun j hj => ?_⟩
    have hc := h.cells (g := g) rfl j _ (Sm.byteCells_get hj)
    rw [Addr.add_mid, Nat.zero_add] at hc
    exact hc
end Ae

set_option maxRecDepth 100000 in
set_option maxHeartbeats 4000000 in
theorem refStream_any (w : World) (key nonce : List UInt8) (hkey : key.length = 32) (hnon : nonce.length = 12) (s : ByteArray) (hs : s.size ≤ 1099511627776) :
    Calls Tryz.prog 64 #[.agg (Lib.byteCells key).toArray, .agg (Lib.byteCells nonce).toArray, .string s] w fun e w' => e = .returned (.string ⟨(Ae.stream key nonce s.data.toList).toArray⟩) ∧ Below w.heap.size w w' := by
  obtain ⟨b0, hbi, hbz0, hbz1, hbz2⟩ := info_parts info3_u8
  obtain ⟨ck, hck⟩ : ∃ c, c = Lib.byteCells key := ⟨_, rfl⟩
  obtain ⟨cn, hcn⟩ : ∃ c, c = Lib.byteCells nonce := ⟨_, rfl⟩
  have hckl : ck.length = 32 := by rw [hck, Lib.byteCells_length, hkey]
  have hcnl : cn.length = 12 := by rw [hcn, Lib.byteCells_length, hnon]
  have hsl : s.data.toList.length = s.size := by rw [Array.length_toList]; rfl
  obtain ⟨N, hN⟩ : ∃ N, N = w.heap.size := ⟨_, rfl⟩
  obtain ⟨W2, hW2⟩ : ∃ W, W = (w.alloc (.cells ck.toArray 63)).alloc (.cells cn.toArray 125) := ⟨_, rfl⟩
  have s2 : W2.heap.size = N + 2 := by rw [hW2, hN]; simp
  have r0 : W2.heap[N]? = some (.cells ck.toArray 63 (0, 0)) := by
    rw [hW2, hN, Below.heap_alloc _ _ _ (by simp)]; exact heap_alloc_new w _
  have r1 : W2.heap[N + 1]? = some (.cells (Lib.byteCells nonce).toArray 125 (0, 0)) := by
    rw [hW2, hN, ← hcn]
    simpa using heap_alloc_new (w.alloc (.cells ck.toArray 63)) (.cells cn.toArray 125)
  have b2 : Below N w W2 := by
    rw [hW2, hN]
    exact ((Below.refl _ w).alloc (Nat.le_refl _) _).alloc (by simp) _
  have SC := Lib.hid (fun (wx : World) (gs cs : Nat) (h : Ae.BytesAt wx gs (Ae.s8 256)) => refSched_any (w := wx) cs h key hkey)
  have ON := Lib.hid (fun (wx : World) (gs G gi cs C ci : Nat) (b : List Nat) (h1 : Ae.BytesAt wx gs (Ae.s8 256)) (h2 : Ae.WsAt wx G (Ae.ks key) 60) (h3 : Ae.BytesAt wx gi (Ae.bytes b)) (h4 : ∀ x ∈ b, x < 4294967296) => one_any (w := wx) cs C ci h1 h2 h3 h4 (Ae.ks_lt key))
  rw [← hck] at SC
  rw [← hck, ← hcn, ← hN]
  have HN := Lib.hid hN
  have HW2 := Lib.hid hW2
  have R0 := Lib.hid r0
  have R1 := Lib.hid r1
  have HNON := Lib.hid hnon
  have hick : (Tryz.prog.info? 63).map (·.size) = some ck.toArray.size := Ae.infoKey32 (by rw [List.size_toArray, hckl])
  clear hW2 hN hck hcn r0 r1 hnon
  go_enter Tryz.func64, Tryz.ntmps64
  go_upto_region 1 with (fail)
  rw [← HW2.out, ← HN.out]
  clear HW2
  have AL := refAll_any W2
  go_wp2_with fail
  refine AL.mono ?_
  rintro e w3 ⟨A, cs, rfl, hown, k3⟩
  obtain ⟨gs, rfl, hgs, hs8⟩ := Ae.all_at hown
  have s3 := k3.size
  have P0 := Lib.hid ((k3.block N (by omega)).trans R0.out)
  have P1 := Lib.hid ((k3.block (N + 1) (by omega)).trans R1.out)
  have B3 : Below N w w3 := b2.trans (k3.mono (by omega))
  have hgl : gs < w3.heap.size := Ae.cell_lt (hs8 0 (by rw [Ae.s8_length]; decide))
  have SC3 := Lib.hid (SC.out w3 gs cs hs8)
  have PS3 := Lib.hid hs8
  clear AL hown k3 R0 R1 SC hs8
  go_wp2_with (with_reducible refine wpList_load_row rfl 63 (.tmp 3) rfl N rfl 63 ck.toArray (0, 0) _ (by exact P0.out) Tryz.underlying63 rfl hick ?_)
  refine SC3.out.mono ?_
  rintro e w4 ⟨G, C, rfl, hws, k4⟩
  have s4 := k4.size
  have P4 := Lib.hid ((k4.block (N + 1) (by omega)).trans P1.out)
  have PS := Lib.hid (PS3.out.keep hgl k4)
  have PW := Lib.hid hws
  have B4 := Lib.hid (B3.trans (k4.mono (by omega)))
  have hGl : G < w4.heap.size := by
    obtain ⟨g, c, h1, _⟩ := hws 0 (by decide)
    exact Ae.cell_lt h1
  have hgl4 : gs < w4.heap.size := by omega
  clear SC3 PS3 hws k4 P0 P1 B3 hgl
  obtain ⟨E, hE⟩ : ∃ E, E = w4.heap.size := ⟨_, rfl⟩
  have hNE : N + 1 < E := by omega
  rw [← hE] at hGl hgl4
  have HE := Lib.hid hE
  clear hE
  go_wp2_with fail
  go_loopw [9, 10] (fun o i wr => ∃ k : Nat, k * 16 < s.size + 16 ∧ i = .int .i64 ((k * 16 : Nat) : Int) ∧ o = .string ⟨((Ae.stream key nonce s.data.toList).take (k * 16)).toArray⟩ ∧ Below E w4 wr) (fun _ i _ => s.size + 16 - (intOf i).toNat)
  case atStart => exact ⟨0, by omega, rfl, by simp, Below.refl _ _⟩
  case round =>
    obtain ⟨k, hk, rfl, rfl, hbk⟩ := hrel
    by_cases hlt : k * 16 < s.size
    · have q1 : ((k * 16 : Nat) : Int) < s.size := by omega
      have q2 : (k * 16 : Nat) < 9223372036854775807 := by omega
      have q3 : ((k : Int) * 16).tdiv 16 = k := by rw [Int.mul_tdiv_cancel _ (by decide)]
      obtain ⟨B0, hB0⟩ : ∃ B, B = wr.heap.size := ⟨_, rfl⟩
      have hEB : E ≤ B0 := by have h := hbk.size; have h2 := HE.out; omega
      have k1 : Below E wr (wr.alloc (.cells #[] 5)) := (Below.refl _ wr).alloc (by omega) _
      have ho1 : (wr.alloc (.cells #[] 5)).ownsRow E 5 1 (.slice (some ⟨B0, 0, none⟩) 0 0) 0 [] := ⟨rfl, .inr ⟨B0, 0, #[], rfl, hEB, by rw [hB0]; exact heap_alloc_new wr _, Nat.le_refl _, by unfold maxLen; omega, rfl, rfl⟩⟩
      have HO1 := Lib.hid ho1
      have hcells : ∀ m u, (Lib.byteCells nonce)[m]? = some u → (wr.alloc (.cells #[] 5)).cell? ((⟨N + 1, 0, none⟩ : Addr).add m) = some u := by
        intro m u hm
        have hm12 : m < nonce.length := by have := (List.getElem?_eq_some_iff.1 hm).1; rwa [Lib.byteCells_length] at this
        rw [Addr.add_mid, Nat.zero_add, Ae.row_bytes (k1.block (N + 1) (by omega) |>.trans ((hbk.block (N + 1) (by omega)).trans P4.out)) m hm12, ← Sm.byteCells_get hm12, hm]
      have HCE := Lib.hid hcells
      have hbone := Sm.bytes_one nonce
      have HBN := Lib.hid hB0
      have HBO := Lib.hid hbone
      have hncl : (Lib.byteCells nonce).length = 12 := by rw [Lib.byteCells_length, HNON.out]
      have HNCL := Lib.hid hncl
      clear ho1 hcells hbone hncl
      go_wp2_with (at_builtin; refine wpList_append_own _ rfl (.tmp 28) (.tmp 29) 85 rfl E 5 b0 (.int .u8 0) 1 1 Tryz.underlying85 hbi hbz0 hbz1 hbz2 rfl (by decide) (.slice (some ⟨wr.heap.size, 0, none⟩) 0 0) 0 [] rfl (by rw [← HBN.out]; exact HO1.out) ⟨N + 1, 0, none⟩ 12 12 (Lib.byteCells nonce) rfl (by rw [HNCL.out]) HCE.out ?c1 ?c3 ?c4 ?c5 ?_)
      case c1 => intro u hu; obtain ⟨m, _, rfl⟩ := List.mem_map.1 hu; rfl
      case c3 => unfold maxLen; omega
      case c4 => omega
      case c5 => simp; omega
      · intro v' w5 hown' hgrow _
        obtain ⟨A2, c2, rfl⟩ := Sm.own_shape hown'
        have HO2 := Lib.hid hown'
        have k2 : Below E (wr.alloc (.cells #[] 5)) w5 := (Below.refl E _).grown hgrow (by simp; omega) (fun g hg => by simp [Value.ownBlock] at hg; omega)
        have B5 : Below E wr w5 := k1.trans k2
        have s5 : E ≤ w5.heap.size := by have h := B5.size; omega
        clear hown' hgrow k2 k1 HCE HO1 HBO
        have hone : ∀ u ∈ [Value.int .u8 ((k : Int) / 16777216 % 256), .int .u8 ((k : Int) / 65536 % 256), .int .u8 ((k : Int) / 256 % 256), .int .u8 ((k : Int) % 256)], u.oneCell' = true := by
          intro u hu
          simp only [List.mem_cons, List.not_mem_nil, or_false] at hu
          rcases hu with rfl | rfl | rfl | rfl <;> rfl
        have k6 : Below E w5 (w5.alloc (.cells #[Value.int .u8 ((k : Int) / 16777216 % 256), .int .u8 ((k : Int) / 65536 % 256), .int .u8 ((k : Int) / 256 % 256), .int .u8 ((k : Int) % 256)] 5)) := (Below.refl _ w5).alloc s5 _
        go_wp2_with (at_builtin; refine wpList_append_own _ rfl (.tmp 30) (.tmp 42) 85 rfl E 5 b0 (.int .u8 0) 1 1 Tryz.underlying85 hbi hbz0 hbz1 hbz2 rfl (by decide) (.slice A2 12 c2) 12 _ rfl (HO2.out.alloc _) ⟨w5.heap.size, 0, none⟩ 4 4 [Value.int .u8 ((k : Int) / 16777216 % 256), .int .u8 ((k : Int) / 65536 % 256), .int .u8 ((k : Int) / 256 % 256), .int .u8 ((k : Int) % 256)] rfl rfl ?c1 hone ?c3 ?c4 ?c5 ?_)
        case c1 =>
          intro j u hj
          match j, hj with
          | 0, hj => simp at hj; subst hj; simp [Addr.add]
          | 1, hj => simp at hj; subst hj; simp [Addr.add]
          | 2, hj => simp at hj; subst hj; simp [Addr.add]
          | 3, hj => simp at hj; subst hj; simp [Addr.add]
          | n + 4, hj => simp at hj
        case c3 => unfold maxLen; omega
        case c4 => omega
        case c5 => simp; omega
        · intro v' w7 hown' hgrow _
          obtain ⟨A3, c3, rfl⟩ := Sm.own_shape hown'
          have ho7 : w7.ownsRow E 5 1 (.slice A3 16 c3) 16 (Lib.byteCells (Ae.bytes (Ae.ctrW nonce k))) := by
            rw [← Ae.ctr_cells nonce k HNON.out]
            exact hown'
          obtain ⟨g3, rfl, hg3, hb3⟩ := Ae.own_at16 ho7
          have k7 : Below E (w5.alloc (.cells #[Value.int .u8 ((k : Int) / 16777216 % 256), .int .u8 ((k : Int) / 65536 % 256), .int .u8 ((k : Int) / 256 % 256), .int .u8 ((k : Int) % 256)] 5)) w7 := (Below.refl E _).grown hgrow (by simp; omega) (fun j hj => (HO2.out.lt j hj).1)
          have B7 : Below E w4 w7 := hbk.trans (B5.trans (k6.trans k7))
          have ON7 := ON.out w7 gs G g3 cs C c3 (Ae.ctrW nonce k) (PS.out.keep hgl4 B7) (PW.out.keep (by have h := HE.out; omega) B7) hb3 (Ae.ctrW_lt nonce k)
          have s7 : E ≤ w7.heap.size := by have h := B7.size; have h2 := HE.out; omega
          rw [show Ae.bytes (Ae.enc (Ae.ks key) (Ae.ctrW nonce k)) = Ae.pad key nonce k from rfl] at ON7
          have hpl := Ae.pad_length key nonce k
          obtain ⟨pd, hpd⟩ : ∃ p, p = Ae.pad key nonce k := ⟨_, rfl⟩
          rw [← hpd] at ON7 hpl
          have HPD := Lib.hid hpd
          clear hpd hown' hgrow ho7 hb3 k7 k6 B5 HO2 hone hbk
          have B7 := Lib.hid B7
          go_wp2_with fail
          refine ON7.mono ?_
          rintro e w8 ⟨g4, c4, rfl, hg4, hb4, k8⟩
          have B8 := Lib.hid (B7.out.trans (k8.mono s7))
          have OB := Lib.hid hb4
          clear hb4 k8 ON7
          go_wp2_with fail
          go_loopw [9, 13] (fun o i wx => ∃ m : Nat, m ≤ 16 ∧ i = .int .i64 m ∧ o = .string ⟨((Ae.stream key nonce s.data.toList).take (k * 16 + m)).toArray⟩ ∧ Ae.BytesAt wx g4 pd ∧ Below E w4 wx) (fun _ i _ => 16 - (intOf i).toNat)
          case atStart => exact ⟨0, by omega, rfl, rfl, OB.out, B8.out⟩
          case round =>
            clear OB B8
            obtain ⟨m, hm, rfl, rfl, hby, hbm⟩ := hrel
            by_cases hlm : m < 16 ∧ k * 16 + m < s.size
            · have p1 : (m : Int) < 16 := by omega
              have p2 : (k : Int) * 16 + m < s.size := by omega
              have p3 : IntKind.i64.wrap ((k : Int) * 16 + m) = (k : Int) * 16 + m := IntWalk.i64_in _ (by omega)
              have hmt : k * 16 + m < s.data.toList.length := by omega
              have hsn := Ae.stream_snoc key nonce s.data.toList (k * 16 + m) hmt
              have hsb : Ae.sbyte key nonce (k * 16 + m) = pd.getD m 0 := by
                rw [HPD.out, Ae.sbyte, show (k * 16 + m) / 16 = k by omega, show (k * 16 + m) % 16 = m by omega]
              rw [hsb] at hsn
              have CB := Lib.hid (hby m (by omega))
              obtain ⟨y, hy⟩ : ∃ y, y = pd.getD m 0 := ⟨_, rfl⟩
              obtain ⟨x, hx⟩ : ∃ x, x = s.data.toList.getD (k * 16 + m) 0 := ⟨_, rfl⟩
              rw [← hy] at CB hsn
              rw [← hx] at hsn
              obtain ⟨out, hout⟩ : ∃ o : ByteArray, o = ⟨((Ae.stream key nonce s.data.toList).take (k * 16 + m)).toArray⟩ := ⟨_, rfl⟩
              have hos : out.size = k * 16 + m := by rw [hout]; show (Array.size _) = _; rw [List.size_toArray, List.length_take, Ae.stream_length]; omega
              rw [← hout]
              have HOUT := Lib.hid hout
              have HX := Lib.hid hx
              have HY := Lib.hid hy
              have HSN := Lib.hid hsn
              have HBY := Lib.hid hby
              clear hout hx hy hsn hsb hby
              generalize wr = wr1 at *
              go_upto_region 12 with (fail)
              have CBD : Hid (wr1.drew.cell? ⟨g4, m, none⟩ = some (.int .u8 (y.toNat : Int))) := CB.out
              have lb := Ae.cell_lt CB.out
              obtain ⟨z, hz⟩ : ∃ z, z = x ^^^ y := ⟨_, rfl⟩
              have hxo : bits .xor .u8 (x.toNat : Int) (y.toNat : Int) = (z.toNat : Int) := by
                rw [Ae.w_xor8 (UInt8.toNat_lt x) (UInt8.toNat_lt y), hz, UInt8.toNat_xor]
              have HZZ := Lib.hid hz
              clear hz
              have hsx : ∀ h : k * 16 + m < s.size, s[k * 16 + m]'h = x := fun h => by
                rw [HX.out, List.getD_eq_getElem?_getD, List.getElem?_eq_getElem hmt]
                rfl
              have HSX := Lib.hid hsx
              clear hsx
              have p4 : 0 ≤ (k : Int) * 16 + m := by omega
              have p5 : ((k : Int) * 16 + m).toNat = k * 16 + m := by omega
              refine wp_region_noPanic ?_
              refine wp_region_held_drew (S := fun w' => w'.cell? ⟨g4, m, none⟩ = some (.int .u8 (y.toNat : Int))) (by kernel_rfl) CBD.out (fun hHeld => ?_)
              refine wpAnyH_take (i := 0) (oi := ⟨some 57, _, _, _, _, _⟩) (v := .string out) rfl (by kernel_rfl) (by kernel_rfl) (by kernel_rfl) (fun _ _ _ h => h) (Or.inl ⟨by rfl, ?_⟩) (by assumption) ?_
              · intro w hSw; (try dsimp only at hSw); go_simp
              simp only [Act.put, List.setIfInBounds_toArray, List.set_cons_zero, List.set_cons_succ]
              refine wpAnyH_take (i := 1) (oi := ⟨some 58, _, _, _, _, _⟩) (v := .string s) rfl (by kernel_rfl) (by kernel_rfl) (by kernel_rfl) (fun _ _ _ h => h) (Or.inl ⟨by rfl, ?_⟩) (by assumption) ?_
              · intro w hSw; (try dsimp only at hSw); go_simp
              simp only [Act.put, List.setIfInBounds_toArray, List.set_cons_zero, List.set_cons_succ]
              refine wpAnyH_take (i := 2) (oi := ⟨some 59, _, _, _, _, _⟩) (v := .int .i64 ((k : Int) * 16)) rfl (by kernel_rfl) (by kernel_rfl) (by kernel_rfl) (fun _ _ _ h => h) (Or.inl ⟨by rfl, ?_⟩) (by assumption) ?_
              · intro w hSw; (try dsimp only at hSw); go_simp
              simp only [Act.put, List.setIfInBounds_toArray, List.set_cons_zero, List.set_cons_succ]
              refine wpAnyH_take (i := 3) (oi := ⟨some 60, _, _, _, _, _⟩) (v := .int .i64 (m : Int)) rfl (by kernel_rfl) (by kernel_rfl) (by kernel_rfl) (fun _ _ _ h => h) (Or.inl ⟨by rfl, ?_⟩) (by assumption) ?_
              · intro w hSw; (try dsimp only at hSw); go_simp
              simp only [Act.put, List.setIfInBounds_toArray, List.set_cons_zero, List.set_cons_succ]
              refine wpAnyH_take (i := 4) (oi := ⟨some 61, _, _, _, _, _⟩) (v := .int .i64 ((k : Int) * 16 + m)) rfl (by kernel_rfl) (by kernel_rfl) (by kernel_rfl) (fun _ _ _ h => h) (Or.inl ⟨by rfl, ?_⟩) (by assumption) ?_
              · intro w hSw; (try dsimp only at hSw); go_simp
              simp only [Act.put, List.setIfInBounds_toArray, List.set_cons_zero, List.set_cons_succ]
              refine wpAnyH_take (i := 5) (oi := ⟨some 62, _, _, _, _, _⟩) (v := .int .u8 (x.toNat : Int)) rfl (by kernel_rfl) (by kernel_rfl) (by kernel_rfl) (fun _ _ _ h => h) (Or.inl ⟨by rfl, ?_⟩) (by assumption) ?_
              · intro w hSw; (try dsimp only at hSw); go_simp; rw [HSX.out]
              simp only [Act.put, List.setIfInBounds_toArray, List.set_cons_zero, List.set_cons_succ]
              refine wpAnyH_take (i := 6) (oi := ⟨some 63, _, _, _, _, _⟩) (v := .slice (some ⟨g4, 0, none⟩) 16 c4) rfl (by kernel_rfl) (by kernel_rfl) (by kernel_rfl) (fun _ _ _ h => h) (Or.inl ⟨by rfl, ?_⟩) (by assumption) ?_
              · intro w hSw; (try dsimp only at hSw); go_simp
              simp only [Act.put, List.setIfInBounds_toArray, List.set_cons_zero, List.set_cons_succ]
              refine wpAnyH_take (i := 7) (oi := ⟨some 64, _, _, _, _, _⟩) (v := .int .i64 (m : Int)) rfl (by kernel_rfl) (by kernel_rfl) (by kernel_rfl) (fun _ _ _ h => h) (Or.inl ⟨by rfl, ?_⟩) (by assumption) ?_
              · intro w hSw; (try dsimp only at hSw); go_simp
              simp only [Act.put, List.setIfInBounds_toArray, List.set_cons_zero, List.set_cons_succ]
              refine wpAnyH_take (i := 8) (oi := ⟨some 65, _, _, _, _, _⟩) (v := .pointer (some ⟨g4, m, none⟩)) rfl (by kernel_rfl) (by kernel_rfl) (by kernel_rfl) (fun _ _ _ h => h) (Or.inl ⟨by rfl, ?_⟩) (by assumption) ?_
              · intro w hSw; (try dsimp only at hSw); go_simp
              simp only [Act.put, List.setIfInBounds_toArray, List.set_cons_zero, List.set_cons_succ]
              refine wpAnyH_take (i := 9) (oi := ⟨some 66, _, _, _, _, _⟩) (v := .int .u8 (y.toNat : Int)) rfl (by kernel_rfl) (by kernel_rfl) (by kernel_rfl) (fun _ _ _ h => h) (Or.inl ⟨by rfl, ?_⟩) (by assumption) ?_
              · intro w hSw; (try dsimp only at hSw); go_simp
              simp only [Act.put, List.setIfInBounds_toArray, List.set_cons_zero, List.set_cons_succ]
              refine wpAnyH_take (i := 10) (oi := ⟨some 67, _, _, _, _, _⟩) (v := .int .u8 (z.toNat : Int)) rfl (by kernel_rfl) (by kernel_rfl) (by kernel_rfl) (fun _ _ _ h => h) (Or.inl ⟨by rfl, ?_⟩) (by assumption) ?_
              · intro w hSw; (try dsimp only at hSw); go_simp
              simp only [Act.put, List.setIfInBounds_toArray, List.set_cons_zero, List.set_cons_succ]
              refine wpAnyH_ready (rs := [11]) (by kernel_rfl) (by simp) ?_
              refine AllReadyH.cons (o := ⟨some 68, _, _, _, _, _⟩) rfl (fun K hK => ?_) AllReadyH.nil
              go_simp
              have C1 : Hid ((wr1.alloc (.cells #[.int .u8 (z.toNat : Int)] 5)).drew.cell? ⟨g4, m, none⟩ = some (.int .u8 (y.toNat : Int))) := (World.cell?_alloc_lt wr1 _ ⟨g4, m, none⟩ lb).trans CBD.out
              have CV : Hid ((convert 85 9 (.slice (some ⟨wr1.heap.size, 0, none⟩) 1 1)).run Tryz.prog (wr1.alloc (.cells #[.int .u8 (z.toNat : Int)] 5)).drew = .ok (.string ⟨[z].toArray⟩) (wr1.alloc (.cells #[.int .u8 (z.toNat : Int)] 5)).drew) := run_convert_bytes_back (P := Tryz.prog) _ 85 9 5 ⟨wr1.heap.size, 0, none⟩ 1 [z] Tryz.underlying85 Tryz.underlying5 Tryz.underlying9 (fun j hj => by match j, hj with | 0, _ => simp [Addr.add])
              have cv := CV.out
              refine hK.out _ _ C1.out (fun hHeld => ?_)
              clear hK K
              obtain ⟨b1, hb1⟩ : ∃ b : ByteArray, b = ⟨[z].toArray⟩ := ⟨_, rfl⟩
              rw [← hb1] at cv
              have hb1s : b1.size = 1 := by rw [hb1]; rfl
              have hcat : out ++ b1 = ⟨((Ae.stream key nonce s.data.toList).take (k * 16 + m + 1)).toArray⟩ := by
                rw [HOUT.out, hb1, HSN.out, HZZ.out]
                exact ByteArray.ext (by rw [ByteArray.data_append]; simp)
              have HCAT := Lib.hid hcat
              have HB1 := Lib.hid hb1
              have p6 : ¬ 9223372036854775807 < out.size + b1.size := by omega
              clear hb1 hcat
              refine wpAnyH_ready (rs := [12]) (by kernel_rfl) (by simp) ?_
              refine AllReadyH.cons (o := ⟨some 69, _, _, _, _, _⟩) rfl (fun K hK => ?_) AllReadyH.nil
              go_simp
              refine hK.out _ _ C1.out (fun hHeld => ?_)
              clear hK K
              refine wpAnyH_take (i := 13) (oi := ⟨some 70, _, _, _, _, _⟩) (v := .string (out ++ b1)) rfl (by kernel_rfl) (by kernel_rfl) (by kernel_rfl) (fun _ _ _ h => h) (Or.inl ⟨by rfl, ?_⟩) (by assumption) ?_
              · intro w hSw; (try dsimp only at hSw); go_simp; omega
              simp only [Act.put, List.setIfInBounds_toArray, List.set_cons_zero, List.set_cons_succ]
              refine wpAnyH_take (i := 14) (oi := ⟨some 9, _, _, _, _, _⟩) (v := .string (out ++ b1)) rfl (by kernel_rfl) (by kernel_rfl) (by kernel_rfl) (fun _ _ _ h => h) (Or.inl ⟨by rfl, ?_⟩) (by assumption) ?_
              · intro w hSw; (try dsimp only at hSw); go_simp
              simp only [Act.put, List.setIfInBounds_toArray, List.set_cons_zero, List.set_cons_succ]
              refine wpAnyH_done (by kernel_rfl) ?_ _
              refine NoPanic.normal ?_
              clear hHeld hxo cv
              go_wp2_with fail
              go_roundw
              case rel =>
                refine ⟨m + 1, by omega, by go_num, by rw [HCAT.out]; rfl, HBY.out.keep lb (((Below.refl _ _).alloc (Nat.le_refl _) _).drew), (hbm.alloc ?_ _).drew⟩
                have h1 := hbm.size
                have h2 := HE.out
                omega
              case measure => simp [intOf]; omega
            · by_cases hm16 : m < 16
              · have p1 : (m : Int) < 16 := by omega
                have p2 : ¬ (k : Int) * 16 + m < s.size := by omega
                have p3 : IntKind.i64.wrap ((k : Int) * 16 + m) = (k : Int) * 16 + m := IntWalk.i64_in _ (by omega)
                have hte : (Ae.stream key nonce s.data.toList).take (k * 16 + m) = (Ae.stream key nonce s.data.toList).take ((k + 1) * 16) := by
                  rw [List.take_of_length_le (by rw [Ae.stream_length]; omega), List.take_of_length_le (by rw [Ae.stream_length]; omega)]
                have HTE := Lib.hid hte
                clear hte
                go_wp2_with fail
                refine ⟨⟨k + 1, by omega, by congr 1; omega, by rw [HTE.out], hbm⟩, ?_⟩
                simp only [intOf]
                omega
              · obtain rfl : m = 16 := by omega
                have p1 : ¬ ((16 : Nat) : Int) < 16 := by omega
                go_wp2_with fail
                refine ⟨⟨k + 1, by omega, by congr 1; omega, by rw [show (k + 1) * 16 = k * 16 + 16 by omega], hbm⟩, ?_⟩
                simp only [intOf]
                omega
    · have q1 : ¬ ((k * 16 : Nat) : Int) < s.size := by omega
      rw [List.take_of_length_le (by rw [Ae.stream_length]; omega)]
      go_wp2_with fail
      exact bodyPost_ret (results_tmp rfl _ _ _) rfl ⟨rfl, B4.out.trans (hbk.mono (by omega))⟩
end Go.Proofs.YtibpgmcpcelmpaaGreatDoor
