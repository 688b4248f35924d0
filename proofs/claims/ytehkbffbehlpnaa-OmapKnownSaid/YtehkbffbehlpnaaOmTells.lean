/-
  omap's Get, List, All, Twin.
-/
import Derived.Test.YtehkbffbehlpnaaOmRow
import Derived.Test.YtehkbffbehlpnaaOmOwn
import Derived.Test.YtehkbffbehlpnaaOmPut
namespace Go.Proofs.Ytehkbffbehlpnaa
open Go.RowKit Go.Maps
namespace Om
def getV (l : List Pr) (p : ByteArray) : ByteArray := match get p l with | some v => v | none => ⟨#[]⟩
theorem getV_some {l : List Pr} {p v : ByteArray} (h : get p l = some v) : getV l p = v := by unfold getV; rw [h]
theorem getV_none {l : List Pr} {p : ByteArray} (h : get p l = none) : getV l p = ⟨#[]⟩ := by unfold getV; rw [h]
theorem Good.path {l : List Pr} (h : Good l) {x : Pr} (hx : x ∈ l) : x.p.size ≤ 33 := by
  have := Pa.ok_len (h.fair x hx).1
  rw [Ba.ba_size] at this
  exact this
theorem Good.val {l : List Pr} (h : Good l) {x : Pr} (hx : x ∈ l) : x.v.size ≤ 32 := (h.fair x hx).2
theorem getV_small {l : List Pr} (h : Good l) (p : ByteArray) : (getV l p).size ≤ 32 := by
  cases hg : get p l with
  | none => rw [getV_none hg]; decide
  | some v => rw [getV_some hg]; exact h.val ((get_mem h.rises v).1 hg)
theorem hasPrefix_begins (t s : ByteArray) : Lib.hasPrefix s.data.toList t.data.toList = begins t s := rfl
def paths (l : List Pr) : List ByteArray := l.map (·.p)
theorem paths_length (l : List Pr) : (paths l).length = l.length := by simp [paths]
theorem strs_paths (l : List Pr) : strs l = txts (paths l) := by simp [strs, txts, paths]
end Om
set_option maxRecDepth 100000 in
theorem omGet_any {w : World} {v : Value} {mb : Option Nat} {l : List Om.Pr} (h : Om.Ptr w v mb l) (hG : Om.Good l) (p : ByteArray) (hp : p.size ≤ 281474976710656) :
    Calls Try.prog 19 #[v, .string p] w fun e w' => e = .returned (.tuple #[.string (Om.getV l p), .bool (Om.get p l).isSome]) ∧ Below w.heap.size w w' := by
  have C := Lib.hid (omHas_any h)
  have hlk := h.has.look_ok Try.underlying9 Try.underlying69 (Om.zero_pair w) (show p.size ≤ maxLen by unfold maxLen; omega)
  have hsm := Om.getV_small hG p
  have e : ∃ q : ByteArray, Om.lookV l p Om.zeroP = .agg #[.string q, .string (Om.getV l p)] := by
    cases hg : Om.get p l with
    | none => exact ⟨⟨#[]⟩, by rw [Om.lookV_none _ hg, Om.getV_none hg]; rfl⟩
    | some u => exact ⟨p, by rw [Om.lookV_some _ hg, Om.getV_some hg]; rfl⟩
  obtain ⟨q, hq⟩ := e
  rw [hq] at hlk
  obtain ⟨u, hu⟩ : ∃ u, u = Om.getV l p := ⟨_, rfl⟩
  obtain ⟨b, hb⟩ : ∃ b, b = (Om.get p l).isSome := ⟨_, rfl⟩
  rw [← hu] at hlk hsm ⊢
  rw [← hb] at hlk ⊢
  have gn := heap_alloc_new w (.cells #[.string q, .string u] 62)
  have CL := Lib.hid (fun wx => strClone_any u wx (by omega))
  have B1 : Hid (Below w.heap.size w (w.alloc (.cells #[.string q, .string u] 62))) := (Below.refl _ w).alloc (Nat.le_refl _) _
  have x1 := Sm.cells_of gn 1 _ rfl
  clear h hG hp hq hu hb hsm
  go_enter Try.func19, Try.ntmps19
  go_wp2_with first | (go_at_call 46; refine C.out.mono ?_; rintro e w' ⟨rfl, rfl⟩) | (go_at_call 47; refine (CL.out _).mono ?_; rintro e w2 ⟨rfl, k2⟩)
  go_ret2
  exact ⟨rfl, B1.out.trans (k2.mono B1.out.size)⟩
set_option maxRecDepth 100000 in
theorem omTwin_nil (w : World) : Calls Try.prog 31 #[.pointer none] w fun e w' => e = .returned (.pointer none) ∧ w = w' := by
  go_enter Try.func31, Try.ntmps31
  go_wp2
  go_ret
  exact ⟨rfl, rfl⟩
set_option maxRecDepth 100000 in
theorem omTwin_any {w : World} {r : Nat} {mb : Option Nat} {l : List Om.Pr} (h : Om.At w r mb l) :
    Calls Try.prog 31 #[.pointer (some ⟨r, 0, none⟩)] w fun e w' => e = .returned (.pointer (some ⟨w.heap.size, 0, none⟩)) ∧ Om.At w' w.heap.size mb l ∧ Below w.heap.size w w' := by
  have c0 := Sm.cells_of h.cell 0 _ rfl
  have HA := Lib.hid h
  clear h
  go_enter Try.func31, Try.ntmps31
  go_wp2
  go_ret
  have B1 := (Below.refl w.heap.size w).alloc (Nat.le_refl _) (.cells #[.map mb] 74)
  exact ⟨rfl, ⟨heap_alloc_new _ _, Om.Has.belowP HA.out.has B1 (Nat.le_refl _)⟩, B1⟩
theorem omRow_paths {w : World} {v : Value} {mb : Option Nat} {l : List Om.Pr} (h : Om.Ptr w v mb l) (hl : l.length ≤ 4096) :
    Calls Try.prog 48 #[v] w fun e w' => ∃ A c, e = .returned (.slice A l.length c) ∧ Om.SRow w' w.heap.size A c (Om.paths l) ∧ Below w.heap.size w w' :=
  (omRow_any h hl).mono fun e w' ⟨A, c, h1, h2, h3⟩ => ⟨A, c, h1, by
    unfold Om.SRow
    rw [Om.paths_length, ← Om.strs_paths]
    exact h2, h3⟩
set_option maxRecDepth 100000 in
set_option maxHeartbeats 2000000 in
theorem omList_any {w : World} {v : Value} {mb : Option Nat} {l : List Om.Pr} (h : Om.Ptr w v mb l) (hG : Om.Good l) (t : ByteArray) :
    Calls Try.prog 25 #[v, .string t] w fun e w' => ∃ A c, e = .returned (.slice A (Om.list t l).length c) ∧ Om.SRow w' w.heap.size A c (Om.list t l) ∧ Below w.heap.size w w' := by
  have R := Lib.hid (omRow_paths h (by have := hG.len; omega))
  have HG := Lib.hid hG
  obtain ⟨N, hN⟩ : ∃ N, N = w.heap.size := ⟨_, rfl⟩
  rw [← hN] at R ⊢
  have HN := Lib.hid hN
  have hl48 := hG.len
  have hHP := fun (s : ByteArray) (wx : World) => (strings_HasPrefix s t wx).mono fun e w' ⟨h1, h2⟩ => (⟨h1, h2.symm⟩ : _ ∧ wx = w')
  have HP := Lib.hid hHP
  clear h hN hG hHP
  go_enter Try.func25, Try.ntmps25
  go_wp2_with (go_at_call 48; refine R.out.mono ?_; rintro e w1 ⟨A0, c0, rfl, hrow, hb⟩)
  have HR0 := Lib.hid hrow
  have HB0 := Lib.hid hb
  have HLE : Hid (N ≤ w1.heap.size) := by show N ≤ _; rw [HN.out]; exact hb.size
  obtain ⟨M, hM⟩ : ∃ M, M = w1.heap.size := ⟨_, rfl⟩
  have HM := Lib.hid hM
  clear hrow hb hM
  go_loopw [5, 11] (fun s5 s11 wr => ∃ (k : Nat) (A : Option Addr) (c : Nat) (m : List ByteArray), s11 = .int .i64 k ∧ k ≤ l.length ∧ s5 = .slice A m.length c ∧ Hid (m = Om.list t (l.take k)) ∧ m.length ≤ k ∧ Om.SRow wr M A c m ∧ Below N w wr ∧ Below M w1 wr) (fun _ s _ => l.length - (intOf s).toNat)
  case atStart => exact ⟨0, none, 0, [], rfl, Nat.zero_le _, rfl, rfl, Nat.le_refl _, Om.SRow.nil _ _, HB0.out, Below.refl _ _⟩
  case round =>
    clear HB0
    obtain ⟨k, A, c, m, rfl, hk, rfl, hm, hmk, hrow, hb, hb1⟩ := hrel
    have HB := Lib.hid hb
    have HB1 := Lib.hid hb1
    have HR := Lib.hid hrow
    have HR1 := Lib.hid (HR0.out.upto hb1 (Nat.le_of_eq HM.out.symm))
    have HMK := Lib.hid hmk
    clear hb hb1 hrow hmk
    by_cases hlt : k < l.length
    · have hki : (k : Int) < (l.length : Int) := by omega
      have hsuc : IntKind.i64.wrap ((k : Int) + 1) = ((k + 1 : Nat) : Int) := by simp [IntKind.wrap, IntKind.bits, IntKind.signed]; omega
      obtain ⟨g0, rfl, hg0, hc0⟩ := HR1.out.get (j := k) (by rw [Om.paths_length]; exact hlt)
      obtain ⟨x, hx⟩ : ∃ x, x = (Om.paths l)[k]'(by rw [Om.paths_length]; exact hlt) := ⟨_, rfl⟩
      have hxk : x = l[k].p := by rw [hx]; simp [Om.paths]
      rw [← hx] at hc0
      have hxs : x.size ≤ 281474976710656 := by rw [hxk]; have := HG.out.path (List.getElem_mem hlt); omega
      have hst : Om.list t (l.take (k + 1)) = m ++ (if Om.begins t x then [x] else []) := by
        rw [hm.out, List.take_succ_eq_append_getElem hlt]
        unfold Om.list
        rw [List.filter_append, List.map_append, List.filter_cons, List.filter_nil, ← hxk]
        split <;> simp [hxk]
      have HST := Lib.hid hst
      have HLT := Lib.hid hlt
      have CP := Lib.hid (HP.out x wr)
      rw [Om.hasPrefix_begins] at CP
      clear hx hxk hst hm
      cases hbg : Om.begins t x with
      | false =>
        rw [hbg] at CP
        rw [hbg] at HST
        clear hlt hbg
        go_wp2_with (go_at_call 50; refine CP.out.mono ?_; rintro e w2 ⟨rfl, rfl⟩)
        go_roundw
        case rel =>
          refine ⟨k + 1, A, c, m, rfl, HLT.out, rfl, ?_, by have := HMK.out; omega, HR.out, HB.out, HB1.out⟩
          show _ = _
          rw [HST.out]; simp
        case measure => simp only [intOf]; have := HLT.out; omega
      | true =>
        rw [hbg] at CP
        rw [hbg] at HST
        have CL := Lib.hid (strClone_any x wr hxs)
        clear hlt hbg
        go_upto_region 6 with (go_at_call 50; refine CP.out.mono ?_; rintro e w2 ⟨rfl, rfl⟩)
        go_wp2_with first
          | (go_at_call 47; refine CL.out.mono ?_; rintro e w2 ⟨rfl, k2⟩; have K2 := Lib.hid (k2.alloc k2.size (.cells #[.string x] 9)); clear k2)
          | (at_builtin; refine Om.wp_text rfl _ _ rfl rfl (HR.out.low K2.out) x rfl (heap_alloc_new _ _) (by have := HMK.out; omega) (by rw [HM.out]; exact Nat.le_trans HB1.out.size K2.out.size) ?_; intro A' c' w3 hr3 hg3)
        have hsl : m.length + 1 = (m ++ [x]).length := by simp
        have K3 : Below M w1 w3 := (HB1.out.trans (K2.out.mono (by rw [HM.out]; exact HB1.out.size))).grown hg3 (by rw [HM.out]; exact Nat.le_trans HB1.out.size K2.out.size) (fun q hq => ((HR.out.low K2.out).blk hq).1)
        have K3' : Below N w w3 := (HB.out.trans (K2.out.mono (by rw [HN.out]; exact HB.out.size))).grown hg3 (by rw [HN.out]; exact Nat.le_trans HB.out.size K2.out.size) (fun q hq => Nat.le_trans (by rw [HM.out]; exact HLE.out) ((HR.out.low K2.out).blk hq).1)
        have HR3 := Lib.hid hr3
        clear hr3 hg3
        go_roundw
        case rel =>
          refine ⟨k + 1, A', c', m ++ [x], rfl, HLT.out, by rw [← hsl], ?_, by simp; exact HMK.out, HR3.out, K3', K3⟩
          show _ = _
          rw [HST.out]; simp
        case measure => simp only [intOf]; have := HLT.out; omega
    · have hke : k = l.length := by omega
      have hm' := hm.out
      rw [hke, List.take_length] at hm'
      clear hm hk
      subst hke hm'
      go_wp2
      go_ret
      exact ⟨A, c, rfl, HR.out.base (by rw [HM.out]; exact HLE.out), HB.out⟩
set_option maxRecDepth 100000 in
set_option maxHeartbeats 2000000 in
theorem omAll_any {w : World} {v : Value} {mb : Option Nat} {l : List Om.Pr} (h : Om.Ptr w v mb l) (hG : Om.Good l) :
    Calls Try.prog 23 #[v] w fun e w' => ∃ A c, e = .returned (.slice A l.length c) ∧ Om.Row w' w.heap.size A c l ∧ Below w.heap.size w w' := by
  have R := Lib.hid (omRow_paths h (by have := hG.len; omega))
  have C := Lib.hid (omHas_any h)
  have HH := Lib.hid h.has
  have HG := Lib.hid hG
  obtain ⟨N, hN⟩ : ∃ N, N = w.heap.size := ⟨_, rfl⟩
  rw [← hN] at R ⊢
  have HN := Lib.hid hN
  have hl48 := hG.len
  clear h hN hG
  go_enter Try.func23, Try.ntmps23
  go_wp2_with first | (go_at_call 46; refine C.out.mono ?_; rintro e w' ⟨rfl, rfl⟩) | (go_at_call 48; refine R.out.mono ?_; rintro e w1 ⟨A0, c0, rfl, hrow, hb⟩)
  have HR0 := Lib.hid hrow
  have HB0 := Lib.hid hb
  have HLE : Hid (N ≤ w1.heap.size) := by show N ≤ _; rw [HN.out]; exact hb.size
  obtain ⟨M, hM⟩ : ∃ M, M = w1.heap.size := ⟨_, rfl⟩
  have HM := Lib.hid hM
  clear hrow hb hM
  go_loopw [3, 12] (fun s5 s11 wr => ∃ (k : Nat) (A : Option Addr) (c : Nat), s11 = .int .i64 k ∧ k ≤ l.length ∧ s5 = .slice A (l.take k).length c ∧ Om.Row wr M A c (l.take k) ∧ Below N w wr ∧ Below M w1 wr) (fun _ s _ => l.length - (intOf s).toNat)
  case atStart => exact ⟨0, none, 0, rfl, Nat.zero_le _, rfl, Om.Row.nil _ _, HB0.out, Below.refl _ _⟩
  case round =>
    clear HB0
    obtain ⟨k, A, c, rfl, hk, rfl, hrow, hb, hb1⟩ := hrel
    have HB := Lib.hid hb
    have HB1 := Lib.hid hb1
    have HR := Lib.hid hrow
    have HR1 := Lib.hid (HR0.out.upto hb1 (Nat.le_of_eq HM.out.symm))
    clear hb hb1 hrow
    obtain ⟨m, hm⟩ : ∃ m, m = l.take k := ⟨_, rfl⟩
    have hmk : m.length ≤ k := by rw [hm, List.length_take]; omega
    have HMK := Lib.hid hmk
    have HMQ := Lib.hid hm
    rw [← hm] at HR ⊢
    clear hm hmk
    by_cases hlt : k < l.length
    · have hki : (k : Int) < (l.length : Int) := by omega
      have hsuc : IntKind.i64.wrap ((k : Int) + 1) = ((k + 1 : Nat) : Int) := by simp [IntKind.wrap, IntKind.bits, IntKind.signed]; omega
      obtain ⟨g0, rfl, hg0, hc0⟩ := HR1.out.get (j := k) (by rw [Om.paths_length]; exact hlt)
      rw [show (Om.paths l)[k]'(by rw [Om.paths_length]; exact hlt) = l[k].p by simp [Om.paths]] at hc0
      obtain ⟨x, hx⟩ : ∃ x, x = l[k] := ⟨_, rfl⟩
      have hxs : x.p.size ≤ 281474976710656 := by rw [hx]; have := HG.out.path (List.getElem_mem hlt); omega
      have hvs : x.v.size ≤ 281474976710656 := by rw [hx]; have := HG.out.val (List.getElem_mem hlt); omega
      have hlk := (Om.Has.belowP HH.out HB.out (Nat.le_of_eq HN.out.symm)).look Try.underlying9 Try.underlying69 (Om.zero_pair wr) (show x.p.size ≤ maxLen by unfold maxLen; omega)
      rw [Om.lookV_some _ ((Om.get_mem HH.out.rises x.v).2 (by rw [hx]; exact List.getElem_mem hlt))] at hlk
      unfold Om.val at hlk
      have hst : Hid (l.take (k + 1) = m ++ [x]) := by show _ = _; rw [HMQ.out, List.take_succ_eq_append_getElem hlt, hx]
      rw [← hx] at hc0
      have HLT := Lib.hid hlt
      have CO := Lib.hid (omOwn_any wr x.p x.v hxs hvs)
      clear hx hlt hxs hvs
      go_wp2_with first
        | (go_at_call 49; refine CO.out.mono ?_; rintro e w2 ⟨rfl, k2⟩; have K2 := Lib.hid (k2.alloc k2.size (.cells #[.string x.p, .string x.v] 62)); clear k2)
        | (at_builtin; refine Om.wp_push rfl _ _ rfl rfl (HR.out.low K2.out) x rfl (heap_alloc_new _ _) (by have := HMK.out; omega) (by rw [HM.out]; exact Nat.le_trans HB1.out.size K2.out.size) ?_; intro A' c' w3 hr3 hg3)
      have hsl : m.length + 1 = (m ++ [x]).length := by simp
      have K3 : Below M w1 w3 := (HB1.out.trans (K2.out.mono (by rw [HM.out]; exact HB1.out.size))).grown hg3 (by rw [HM.out]; exact Nat.le_trans HB1.out.size K2.out.size) (fun q hq => ((HR.out.low K2.out).blk hq).1)
      have K3' : Below N w w3 := (HB.out.trans (K2.out.mono (by rw [HN.out]; exact HB.out.size))).grown hg3 (by rw [HN.out]; exact Nat.le_trans HB.out.size K2.out.size) (fun q hq => Nat.le_trans (by rw [HM.out]; exact HLE.out) ((HR.out.low K2.out).blk hq).1)
      have HR3 := Lib.hid hr3
      clear hr3 hg3 hlk
      go_roundw
      case rel =>
        refine ⟨k + 1, A', c', rfl, HLT.out, by rw [hst.out, ← hsl], by rw [hst.out]; exact HR3.out, K3', K3⟩
      case measure => simp only [intOf]; have := HLT.out; omega
    · have hke : k = l.length := by omega
      have hm' := HMQ.out
      rw [hke, List.take_length] at hm'
      clear hk HMQ
      subst hke hm'
      go_wp2
      go_ret
      exact ⟨A, c, rfl, HR.out.base (by rw [HM.out]; exact HLE.out), HB.out⟩
end Go.Proofs.Ytehkbffbehlpnaa
