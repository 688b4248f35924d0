/-
  The document's kept: a record's sectors.
-/
import Derived.Test.YtmdhnokgjapglaaR9Gen
import Derived.Test.YtmdhnokgjapglaaKpOne
namespace Go.Proofs.Ytmdhnokgjapglaa
open Go.RowKit
namespace Kp
theorem bodies_take {t : List UInt8} {g k : Nat} (h : k < parts t) : (bodies t g).take (k + 1) = (bodies t g).take k ++ [body t g k] := by
  rw [List.take_succ_eq_append_getElem (by rw [bodies_length]; exact h)]
  simp [bodies]
theorem low_next (k g : Nat) : low (k + 1) g = low k g ++ [UInt8.ofNat (g / 256 ^ k % 256)] := Sm.range_snoc
theorem low_cast (g k : Nat) : IntKind.u8.wrap ((g : Int) / 2 ^ (8 * k)) = ((UInt8.ofNat (g / 256 ^ k % 256)).toNat : Int) := by
  obtain ⟨q, hq⟩ : ∃ q, q = g / 2 ^ (8 * k) := ⟨_, rfl⟩
  have h1 : (g : Int) / 2 ^ (8 * k) = (q : Int) := by rw [hq]; push_cast; rfl
  rw [h1, IntKind.wrap_u8, UInt8.toNat_ofNat', show (256 : Nat) ^ k = 2 ^ (8 * k) by rw [Nat.pow_mul], ← hq]
  omega
/-- A record's sectors. -/
def closeds (t : List UInt8) (g : Nat) : List (List UInt8) := (bodies t g).map Dk.closed
theorem closeds_length (t : List UInt8) (g : Nat) : (closeds t g).length = parts t := by rw [closeds, List.length_map, bodies_length]
theorem closeds_take {t : List UInt8} {g k : Nat} (h : k < parts t) : (closeds t g).take (k + 1) = (closeds t g).take k ++ [Dk.closed (body t g k)] := by
  rw [closeds, ← List.map_take, bodies_take h, List.map_append, List.map_take]; rfl
theorem parts_1000 {t : List UInt8} (h : t.length ≤ 1000) : parts t ≤ 21 := by unfold parts; omega
/-- What is written of a part's body so far. -/
def headOf (t : List UInt8) (g i : Nat) : List UInt8 := eight g ++ [UInt8.ofNat i, UInt8.ofNat (parts t), UInt8.ofNat (part t i).length, 0] ++ part t i
theorem headOf_length (t : List UInt8) (g i : Nat) : (headOf t g i).length = 12 + (part t i).length := by simp [headOf, eight_length]; omega
theorem headOf_body (t : List UInt8) (g i : Nat) : headOf t g i ++ List.replicate (48 - (part t i).length) 0 = body t g i := by simp [headOf, body]
def strLen : Value → Nat
  | .string b => b.size
  | _ => 0
theorem part_ext (t : ByteArray) (i e : Nat) (hto : e = min (48 * i + 48) t.size) : (t.extract (48 * i) e).data.toList = part t.data.toList i := by
  have htl : t.data.toList.length = t.size := by simp
  rw [part, ByteArray.data_extract, Array.toList_extract, List.extract_eq_take_drop, hto]
  by_cases hc : 48 * i + 48 ≤ t.size
  · rw [Nat.min_eq_left hc, show 48 * i + 48 - 48 * i = 48 by omega]
  · rw [Nat.min_eq_right (by omega), List.take_of_length_le (by rw [List.length_drop]; omega), List.take_of_length_le (by rw [List.length_drop]; omega)]
end Kp
set_option maxRecDepth 100000 in
set_option maxHeartbeats 2000000 in
theorem r9Sectors_any (w : World) (t : ByteArray) (g : Nat) (ht : t.size ≤ 1000) :
    Calls Try.prog 28 #[.string t, .int .u64 g] w fun e w' => ∃ A c, e = .returned (.slice A (Kp.parts t.data.toList) c) ∧ Kp.parts t.data.toList ≤ c ∧ Kp.StrsAt w' A (Kp.closeds t.data.toList g) ∧ (∀ q o, A = some ⟨q, o, none⟩ → w.heap.size ≤ q) ∧ Below w.heap.size w w' := by
  obtain ⟨i0, hie, hz0, hz1, hz2⟩ := info_parts Dk.info3_str
  have htl : t.data.toList.length = t.size := by simp
  have hP21 := Kp.parts_1000 (t := t.data.toList) (by omega)
  have hP1 := Kp.parts_pos t.data.toList
  have hPd : Kp.parts t.data.toList = if t.size = 0 then 1 else (t.size + 47) / 48 := by
    unfold Kp.parts; rw [htl]
    split <;> omega
  obtain ⟨P, hP⟩ : ∃ P, P = Kp.parts t.data.toList := ⟨_, rfl⟩
  obtain ⟨L, hL⟩ : ∃ L, L = Kp.closeds t.data.toList g := ⟨_, rfl⟩
  have LL : Hid (L.length = P) := by show _ = _; rw [hL, hP]; exact Kp.closeds_length _ _
  have LK : Hid (∀ k, k < P → L.take (k + 1) = L.take k ++ [Dk.closed (Kp.body t.data.toList g k)]) := fun k hk => by rw [hL]; exact Kp.closeds_take (by rw [← hP]; exact hk)
  rw [← hP] at hP21 hP1 hPd ⊢
  rw [← hL]
  have HP := Lib.hid hP
  clear hP hL
  go_enter Try.func28, Try.ntmps28
  go_upto_if 17 with (fail)
  go_cut [5] from 18 (fun s5 wx => s5 = .int .i64 (P : Int) ∧ w = wx)
  case first =>
    by_cases hz : t.size = 0
    · rw [if_pos hz] at hPd
      have hzi : ((t.size : Int) + 47) / 48 = 0 := by omega
      have hpi : (P : Int) = 1 := by omega
      have HPI := Lib.hid hpi
      clear hpi hPd
      go_wp2
      go_meet
      exact ⟨by rw [HPI.out], rfl⟩
    · rw [if_neg hz] at hPd
      have hzi : ¬ ((t.size : Int) + 47) / 48 = 0 := by omega
      have hzb : ((((t.size : Int) + 47) / 48) == 0) = false := beq_eq_false_iff_ne.2 hzi
      have hpi : (P : Int) = ((t.size : Int) + 47) / 48 := by omega
      have HPI := Lib.hid hpi
      clear hpi hPd
      go_wp2
      go_meet
      exact ⟨by rw [HPI.out], rfl⟩
  case rest =>
    obtain ⟨rfl, rfl⟩ := hcut
    have HPD := Lib.hid hPd
    clear hPd
    go_wp2_with fail
    go_loopw [6, 7] (fun s6 s7 wr => ∃ i : Nat, s7 = .int .i64 i ∧ i ≤ P ∧ wr.ownsRow w.heap.size 9 1 s6 (L.take i).length ((L.take i).map Dk.txt) ∧ Below w.heap.size w wr) (fun _ s7 _ => P - (intOf s7).toNat)
    case atStart => exact ⟨0, rfl, Nat.zero_le _, World.ownsRow_nil _ _ _ _, Below.refl _ _⟩
    case round =>
      obtain ⟨i, rfl, hi, hown, hbl⟩ := hrel
      obtain ⟨Av, cv, hv⟩ := Sm.own_shape hown
      subst hv
      have HO := Lib.hid hown
      have HBL := Lib.hid hbl
      clear hown hbl
      by_cases hlt : i < P
      · have hki : (i : Int) < (P : Int) := by omega
        have hsuc : IntKind.i64.wrap ((i : Int) + 1) = ((i + 1 : Nat) : Int) := by simp [IntKind.wrap, IntKind.bits, IntKind.signed]; omega
        have hln : (L.take i).length = i := by rw [List.length_take, LL.out]; omega
        rw [hln] at HO ⊢
        obtain ⟨m, hm⟩ : ∃ m, m = 48 * i := ⟨_, rfl⟩
        have v1 : IntKind.i64.wrap (48 * (i : Int)) = (m : Int) := by rw [IntWalk.i64_in _ (by omega), hm]; push_cast; rfl
        have v2 : IntKind.i64.wrap ((m : Int) + 48) = (m : Int) + 48 := IntWalk.i64_in _ (by omega)
        have HMI : Hid ((m : Int) = 48 * (i : Int)) := by show _ = _; omega
        obtain ⟨e, he⟩ : ∃ e, e = min (m + 48) t.size := ⟨_, rfl⟩
        have hle : m ≤ t.size := by have := HPD.out; split at this <;> omega
        obtain ⟨p, hp⟩ : ∃ p : ByteArray, p = t.extract m e := ⟨_, rfl⟩
        have hpl : p.data.toList = Kp.part t.data.toList i := by rw [hp, hm]; exact Kp.part_ext t i e (by rw [he, hm])
        go_upto_if 29 with (fail)
        go_cut [8] from 30 to 75 (fun s8 wx => s8 = .int .i64 (e : Int) ∧ wr = wx)
        case first =>
          by_cases hc : m + 48 ≤ t.size
          · have hci : ¬ (t.size : Int) < (m : Int) + 48 := by omega
            have hei : (e : Int) = (m : Int) + 48 := by omega
            have HEI := Lib.hid hei
            clear hei hp hpl he
            go_wp2
            go_meet
            exact ⟨by rw [HEI.out, HMI.out], rfl⟩
          · have hci : (t.size : Int) < (m : Int) + 48 := by omega
            have hei : (e : Int) = (t.size : Int) := by omega
            have HEI := Lib.hid hei
            clear hei hp hpl he
            go_wp2
            go_meet
            exact ⟨by rw [HEI.out], rfl⟩
        case rest =>
          obtain ⟨rfl, rfl⟩ := hcut
          have q1 : (0 : Int) ≤ (m : Int) := by omega
          have q2 : (m : Int) ≤ (e : Int) := by omega
          have q3 : (e : Int) ≤ (t.size : Int) := by omega
          have q4 : ¬ (e : Int) < (m : Int) := by omega
          have q5 : ¬ (t.size : Int) < (e : Int) := by omega
          have q6 : ¬ (m : Int) < 0 := by omega
          have hps : p.size = (Kp.part t.data.toList i).length := by rw [← hpl]; simp
          have HPL := Lib.hid hpl
          have HPS := Lib.hid hps
          have HPE := Lib.hid hp
          clear hp hpl hps he hm
          go_upto_region 12 with (fail)
          rw [← HPE.out]
          generalize wr = W1 at *
          go_wp2_with fail
          go_loopw [10, 11] (fun s10 s11 wx => ∃ (k : Nat) (b : ByteArray), s11 = .int .i64 k ∧ k ≤ 8 ∧ s10 = .string b ∧ b.data.toList = Kp.low k g ∧ Below W1.heap.size W1 wx) (fun _ s11 _ => 8 - (intOf s11).toNat)
          case atStart => exact ⟨0, ⟨#[]⟩, rfl, by omega, rfl, rfl, Below.refl _ _⟩
          case round =>
            obtain ⟨k, b, rfl, hk, rfl, hbl, hbk⟩ := hrel
            have HB := Lib.hid hbl
            have HBK := Lib.hid hbk
            have hbs : b.size = k := by
              have := congrArg List.length hbl
              rw [Kp.low_length] at this
              simpa using this
            clear hbl hbk
            by_cases hk8 : k < 8
            · have hk8i : (k : Int) < 8 := by omega
              have v8 : IntKind.i64.wrap (8 * (k : Int)) = 8 * (k : Int) := IntWalk.i64_in _ (by omega)
              have p1 : (0 : Int) ≤ 8 * (k : Int) := by omega
              have hlc := Kp.low_cast g k
              obtain ⟨xb, hxb⟩ : ∃ x : UInt8, x = UInt8.ofNat (g / 256 ^ k % 256) := ⟨_, rfl⟩
              rw [← hxb] at hlc
              have HXB := Lib.hid hxb
              have hcat : b.size + (ByteArray.mk #[xb]).size ≤ 9223372036854775807 := by show b.size + 1 ≤ _; omega
              have hcv := Sm.conv_row (l := [xb]) (n := 1) (heap_alloc_new wr (.cells #[.int .u8 (xb.toNat : Int)] 5)) rfl
              clear hxb
              have hbl3 := (HBK.out.alloc HBK.out.size (.cells #[.int .u8 (xb.toNat : Int)] 5))
              have hb3 : (b ++ (⟨#[xb]⟩ : ByteArray)).data.toList = Kp.low (k + 1) g := by
                rw [Kp.low_next, ← HXB.out, ← HB.out]; simp
              have HB3 := Lib.hid hb3
              have HBL3 := Lib.hid hbl3
              clear hb3 hbl3
              go_wp2_with fail
              exact ⟨⟨k + 1, b ++ ⟨#[xb]⟩, by push_cast; rfl, by omega, rfl, HB3.out, HBL3.out⟩, by simp only [intOf]; omega⟩
            · have hk8i : ¬ (k : Int) < 8 := by omega
              have hk8e : k = 8 := by omega
              subst hk8e
              have hp48 := Kp.part_le t.data.toList i
              obtain ⟨Ln, hLn⟩ : ∃ n, n = p.size := ⟨_, rfl⟩
              have hLn48 : Ln ≤ 48 := by have := HPS.out; omega
              have HLN := Lib.hid hLn
              have w1 : IntKind.u8.wrap (i : Int) = ((UInt8.ofNat i).toNat : Int) := by rw [IntKind.wrap_u8, UInt8.toNat_ofNat']; omega
              have w2 : IntKind.u8.wrap (P : Int) = ((UInt8.ofNat P).toNat : Int) := by rw [IntKind.wrap_u8, UInt8.toNat_ofNat']; omega
              have w3 : IntKind.u8.wrap (Ln : Int) = ((UInt8.ofNat Ln).toNat : Int) := by rw [IntKind.wrap_u8, UInt8.toNat_ofNat']; omega
              obtain ⟨y1, hy1⟩ : ∃ x, x = UInt8.ofNat i := ⟨_, rfl⟩
              obtain ⟨y2, hy2⟩ : ∃ x, x = UInt8.ofNat P := ⟨_, rfl⟩
              obtain ⟨y3, hy3⟩ : ∃ x, x = UInt8.ofNat Ln := ⟨_, rfl⟩
              rw [← hy1] at w1
              rw [← hy2] at w2
              rw [← hy3] at w3
              have HY1 := Lib.hid hy1
              have HY2 := Lib.hid hy2
              have HY3 := Lib.hid hy3
              have hLs := hLn.symm
              have hcv := Sm.conv_row (l := [y1, y2, y3, 0]) (n := 4) (heap_alloc_new wr (.cells #[.int .u8 (y1.toNat : Int), .int .u8 (y2.toNat : Int), .int .u8 (y3.toNat : Int), .int .u8 0] 5)) rfl
              have hcat : b.size + (ByteArray.mk #[y1, y2, y3, 0]).size ≤ 9223372036854775807 := by show b.size + 4 ≤ _; omega
              have hcat2 : (b ++ (⟨#[y1, y2, y3, 0]⟩ : ByteArray)).size + p.size ≤ 9223372036854775807 := by
                have : (b ++ (⟨#[y1, y2, y3, 0]⟩ : ByteArray)).size = b.size + 4 := by rw [ByteArray.size_append]; rfl
                omega
              clear hy1 hy2 hy3 hLn hp48
              have hhd : (b ++ (⟨#[y1, y2, y3, 0]⟩ : ByteArray) ++ p).data.toList = Kp.headOf t.data.toList g i := by
                rw [ByteArray.data_append, Array.toList_append, ByteArray.data_append, Array.toList_append, HB.out, HPL.out, Kp.headOf, Kp.eight, ← HP.out, ← HPS.out, ← HLN.out, HY1.out, HY2.out, HY3.out]
              have hbl3 := (HBK.out.alloc HBK.out.size (.cells #[.int .u8 (y1.toNat : Int), .int .u8 (y2.toNat : Int), .int .u8 (y3.toNat : Int), .int .u8 0] 5))
              have HHD := Lib.hid hhd
              have HBL3 := Lib.hid hbl3
              clear hhd hbl3
              go_upto_region 18 with (fail)
              obtain ⟨d0, hd0⟩ : ∃ d, d = b ++ (⟨#[y1, y2, y3, 0]⟩ : ByteArray) ++ p := ⟨_, rfl⟩
              rw [← hd0] at HHD ⊢
              clear hd0 hcat hcat2 hcv w1 w2 w3
              generalize wr.alloc (.cells #[.int .u8 (y1.toNat : Int), .int .u8 (y2.toNat : Int), .int .u8 (y3.toNat : Int), .int .u8 0] 5) = W2 at *
              have hLp : Ln = (Kp.part t.data.toList i).length := by rw [HLN.out, HPS.out]
              go_loopw [10] (fun s10 wx => ∃ (q : Nat) (d : ByteArray), s10 = .string d ∧ d.data.toList = Kp.headOf t.data.toList g i ++ List.replicate q 0 ∧ q ≤ 48 - Ln ∧ Below W1.heap.size W1 wx) (fun s10 _ => 60 - Kp.strLen s10)
              case atStart => exact ⟨0, d0, rfl, by rw [HHD.out]; simp, Nat.zero_le _, HBL3.out⟩
              case round =>
                obtain ⟨q, d, rfl, hd, hq, hbq⟩ := hrel
                have hds : d.size = 12 + Ln + q := by
                  have := congrArg List.length hd
                  rw [List.length_append, Kp.headOf_length, List.length_replicate, ← hLp] at this
                  simpa using this
                have HD := Lib.hid hd
                have HBQ := Lib.hid hbq
                clear hd hbq
                by_cases h60 : d.size < 60
                · have h60i : (d.size : Int) < 60 := by omega
                  have hcat : d.size + (ByteArray.mk #[0]).size ≤ 9223372036854775807 := by show d.size + 1 ≤ _; omega
                  have hcv := Sm.conv_row (l := [0]) (n := 1) (heap_alloc_new wr (.cells #[.int .u8 0] 5)) rfl
                  have hnx : (d ++ (⟨#[0]⟩ : ByteArray)).data.toList = Kp.headOf t.data.toList g i ++ List.replicate (q + 1) 0 := by
                    rw [ByteArray.data_append, Array.toList_append, HD.out, List.append_assoc, ← List.replicate_succ']
                  have hsz2 : (d ++ (⟨#[0]⟩ : ByteArray)).size = d.size + 1 := by rw [ByteArray.size_append]; rfl
                  have HNX := Lib.hid hnx
                  have HSZ2 := Lib.hid hsz2
                  have HB5 := Lib.hid (HBQ.out.alloc HBQ.out.size (.cells #[.int .u8 0] 5))
                  have HDS := Lib.hid hds
                  clear hnx hsz2 hds
                  go_wp2_with fail
                  exact ⟨⟨q + 1, d ++ ⟨#[0]⟩, rfl, HNX.out, by have := HDS.out; omega, HB5.out⟩, by simp only [Kp.strLen]; have := HSZ2.out; omega⟩
                · have h60i : ¬ (d.size : Int) < 60 := by omega
                  have hdb : d.data.toList = Kp.body t.data.toList g i := by
                    rw [HD.out, ← Kp.headOf_body, ← hLp, show q = 48 - Ln by omega]
                  have CL := Lib.hid (r7Close_any wr d (by omega))
                  rw [hdb] at CL
                  obtain ⟨cb, hcb⟩ : ∃ x : ByteArray, x = ⟨(Dk.closed (Kp.body t.data.toList g i)).toArray⟩ := ⟨_, rfl⟩
                  rw [← hcb] at CL
                  have HCB := Lib.hid hcb
                  have E := Lib.hid (LK.out i hlt)
                  have hwl := HBL.out.size
                  have hwq := HBQ.out.size
                  clear hdb hcb hds
                  go_wp2_with (first
                    | (go_at_call 29; refine CL.out.mono ?_; rintro e w4 ⟨rfl, k4⟩)
                    | (at_builtin
                       refine wpList_append_own _ rfl _ _ 29 rfl w.heap.size 9 i0 (.string ⟨#[]⟩) 1 16 Try.underlying29 hie hz0 hz1 hz2 rfl (by decide) _ _ _ rfl ((Dk.own_block (Dk.own_block HO.out (fun q hq => HBQ.out.block q (Dk.own_blk HO.out hq).2.1)) (fun q hq => k4.block q (by have := (Dk.own_blk HO.out hq).2.1; omega))).alloc _) ⟨w4.heap.size, 0, none⟩ 1 1 [.string cb] rfl rfl (Dk.new_text _ _) (by intro u hu; simp at hu; subst hu; rfl) (by unfold maxLen; omega) (by omega) (by have := k4.size; simp; omega) ?_
                       intro v' w5 hown' hgrow _))
                  have hge : ∀ q, (Value.slice Av i cv).ownBlock = some q → w.heap.size ≤ q := fun q hq => (Dk.own_blk HO.out hq).1
                  have b4 : Below w.heap.size w w4 := HBL.out.trans ((HBQ.out.trans (k4.mono hwq)).mono hwl)
                  have hb5 : Below w.heap.size w w5 := (b4.alloc b4.size _).grown hgrow (by have := b4.size; simp; omega) hge
                  have hl5 : (L.take (i + 1)).length = i + 1 := by rw [List.length_take, LL.out]; omega
                  have ho5 : w5.ownsRow w.heap.size 9 1 v' (L.take (i + 1)).length ((L.take (i + 1)).map Dk.txt) := by
                    rw [hl5, E.out, List.map_append, List.map_cons, List.map_nil, show Dk.txt (Dk.closed (Kp.body t.data.toList g i)) = .string cb from congrArg Value.string HCB.out.symm]
                    exact hown'
                  have HO5 := Lib.hid ho5
                  have HB5 := Lib.hid hb5
                  clear hge b4 hb5 hl5 ho5 hown' hgrow
                  go_roundw
                  case rel => exact ⟨i + 1, by push_cast; rfl, by omega, HO5.out, HB5.out⟩
                  case measure => simp [intOf]; omega
      · have hki : ¬ (i : Int) < (P : Int) := by omega
        have hiP : i = P := by omega
        have htk : L.take i = L := List.take_of_length_le (by rw [LL.out]; omega)
        rw [htk] at HO ⊢
        have hne : L ≠ [] := fun e => by have := LL.out; rw [e] at this; simp at this; omega
        obtain ⟨A', c', e1, hcap, hs, hq⟩ := Kp.StrsAt.of_own HO.out hne
        simp only [Value.slice.injEq] at e1
        obtain ⟨rfl, -, rfl⟩ := e1
        rw [LL.out] at hcap
        rw [LL.out]
        have HS := Lib.hid hs
        have HCP := Lib.hid hcap
        have HQ : Hid (∀ q o, Av = some ⟨q, o, none⟩ → w.heap.size ≤ q) := fun q o e => hq q (by rw [e]; rfl)
        clear hs hcap hq hne htk hiP
        go_wp2
        go_ret
        exact ⟨_, _, rfl, HCP.out, HS.out, HQ.out, HBL.out⟩
end Go.Proofs.Ytmdhnokgjapglaa
