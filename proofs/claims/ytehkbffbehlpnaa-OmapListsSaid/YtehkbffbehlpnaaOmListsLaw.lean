/-
  OmapLists: lists are the paths that begin with a text, rising.
-/
import Derived.Test.YtehkbffbehlpnaaOmPlay
namespace Go.Proofs.Ytehkbffbehlpnaa
open Go.RowKit Go.Maps
namespace Om
theorem txtsAt.get {w w' : World} {A : Option Addr} {l : List ByteArray} (h : txtsAt w A l) (k : Below w.heap.size w w') {j : Nat} (hj : j < l.length) : ∃ b o, A = some ⟨b, o, none⟩ ∧ w'.cell? ⟨b, o + j, none⟩ = some (.string l[j]) := by
  rcases h with rfl | ⟨b, o, rfl, hb, h⟩
  · simp at hj
  · exact ⟨b, o, rfl, (k.cell (p := ⟨b, o + j, none⟩) hb).trans (h j hj)⟩
theorem txtsAt.below {w w' : World} {A : Option Addr} {l : List ByteArray} (h : txtsAt w A l) (k : Below w.heap.size w w') : txtsAt w' A l := by
  rcases h with h | ⟨b, o, h1, hb, h⟩
  · exact .inl h
  · exact .inr ⟨b, o, h1, Nat.lt_of_lt_of_le hb k.size, fun i hi => (k.cell (p := ⟨b, o + i, none⟩) hb).trans (h i hi)⟩
/-- Of a row's i-th: where it stands among those that are taken. -/
theorem filter_at {b : ByteArray → Bool} {P : List ByteArray} {i : Nat} (hi : i < P.length) (hb : b P[i] = true) : ((P.take i).filter b).length < (P.filter b).length ∧ ∀ h, (P.filter b)[((P.take i).filter b).length]'h = P[i] := by
  have e : P.filter b = (P.take i).filter b ++ (P[i] :: (P.drop (i + 1)).filter b) := by
    conv => lhs; rw [← List.take_append_drop i P, List.drop_eq_getElem_cons hi]
    rw [List.filter_append, List.filter_cons, hb, if_pos rfl]
  refine ⟨by rw [e]; simp, fun h => ?_⟩
  simp only [e]
  rw [List.getElem_append_right (Nat.le_refl _)]
  simp
theorem filter_take {b : ByteArray → Bool} {P : List ByteArray} {i : Nat} (hi : i < P.length) : ((P.take (i + 1)).filter b).length = ((P.take i).filter b).length + if b P[i] then 1 else 0 := by
  rw [List.take_succ_eq_append_getElem hi, List.filter_append, List.length_append, List.filter_cons, List.filter_nil]
  split <;> rfl
theorem begins_iff (p x : ByteArray) : begins p x = true ↔ p.data.toList <+: x.data.toList := by unfold begins; exact List.isPrefixOf_iff_prefix
theorem slice_begins {x p : ByteArray} (h : p.size ≤ x.size) : ((x.extract 0 p.size).toList == p.toList) = begins p x := by
  have _hs := h
  rw [Bool.eq_iff_iff, ba_same, Pa.ext_take, begins_iff, List.prefix_iff_eq_take, Ba.ba_size]
  constructor
  · intro h; rw [← h, Ba.ba_mk, h]
  · intro h; rw [← h, Ba.ba_eq]
theorem short_begins {x p : ByteArray} (h : x.size < p.size) : begins p x = false := by
  cases hb : begins p x with
  | false => rfl
  | true =>
    have := ((begins_iff p x).1 hb).length_le
    rw [Ba.ba_size, Ba.ba_size] at this
    omega
/-- What begins with a mount's name and a / is of that mount. -/
theorem mount_of {m q : ByteArray} (hm : m.data.toList.all Pa.low = true) (h : begins (m ++ ⟨#[47]⟩) q = true) : Pa.head q.data.toList = m.data.toList := by
  obtain ⟨r, hr⟩ := (begins_iff _ _).1 h
  have e : (m ++ ⟨#[47]⟩ : ByteArray).data.toList = m.data.toList ++ [47] := by simp
  rw [← hr, e, List.append_assoc]
  exact (Pa.head_join hm).1
end Om
set_option maxRecDepth 100000 in
set_option maxHeartbeats 4000000 in
theorem omapLists_any {w : World} {A : Option Addr} (c : Nat) {L : List Om.Rw} (hit : Om.rowsAt w A L) (hL : L.length ≤ 9223372036854775807) (hok : ∀ x ∈ L, Om.Rw.Ok x) (p : ByteArray) :
    Calls Try.prog 9 #[.slice A L.length c, .string p] w fun e w' => e = .returned (.bool true) ∧ Below w.heap.size w w' := by
  obtain ⟨g, hg⟩ := Om.fairR_or L
  have GR := Lib.hid (great13_any (c := c) hit g hg)
  have AW := Lib.hid (fun wx => awake13_any wx)
  cases g with
  | true =>
    clear hit hg
    go_enter Try.func9, Try.ntmps9
    go_wp2_with first | (go_at_call 12; refine GR.out.mono ?_; rintro e w' ⟨rfl, rfl⟩) | (go_at_call 13; refine (AW.out _).mono ?_; rintro e w1 ⟨rfl, k1⟩)
    go_ret
    exact ⟨rfl, k1⟩
  | false =>
    by_cases hp : 1000 < p.size
    · have hpi : (1000 : Int) < (p.size : Int) := by omega
      clear hit hg hp
      go_enter Try.func9, Try.ntmps9
      go_wp2_with first | (go_at_call 12; refine GR.out.mono ?_; rintro e w' ⟨rfl, rfl⟩) | (go_at_call 13; refine (AW.out _).mono ?_; rintro e w1 ⟨rfl, k1⟩)
      go_ret
      exact ⟨rfl, k1⟩
    · have hpi : ¬ (1000 : Int) < (p.size : Int) := by omega
      have hp1 : p.size ≤ 1000 := by omega
      have HP := Lib.hid hp1
      have hf : Om.FairR L := by
        by_cases h : Om.FairR L
        · exact h
        · have := hg.2 h; cases this
      have HL200 := hf.1
      have NW := Lib.hid (omNew_lies w)
      obtain ⟨N, hN⟩ : ∃ N, N = w.heap.size := ⟨_, rfl⟩
      have HN := Lib.hid hN
      have RD : Hid (∀ (wx : World) (k : Nat) (hk : k < L.length), Below N w wx → ∃ b off, A = some ⟨b, off, none⟩ ∧ wx.cell? ⟨b, off + k, none⟩ = some (.slice L[k].A L[k].l.length L[k].c) ∧ ∀ (r : Nat) (l : List Om.Pr), Om.Lies wx r l →
          Calls Try.prog 17 #[.pointer (some ⟨r, 0, none⟩), .slice L[k].A L[k].l.length L[k].c] wx fun e w' => e = .returned (.int .i64 ((Om.doE l L[k].l).2 : Nat)) ∧ Om.Lies w' r (Om.doE l L[k].l).1 ∧ wx.grownBy w' (some r)) := by
        intro wx k hk hb
        obtain ⟨b, off, h1, h2, _, _, h3⟩ := Om.rowDo hit hok hf hk (by rw [← hN]; exact hb)
        exact ⟨b, off, h1, h2, fun r l h => h3 wx r l (Below.refl _ _) h⟩
      rw [← hN] at NW ⊢
      clear hit hg hf hN hok hp hp1
      go_enter Try.func9, Try.ntmps9
      go_upto_region 4 with first | (go_at_call 12; refine GR.out.mono ?_; rintro e w' ⟨rfl, rfl⟩) | (go_at_call 16; refine NW.out.mono ?_; rintro e w1 ⟨rfl, hl1, hb1⟩)
      have O1 : Hid (Om.One w w1 N []) := ⟨hl1, hb1⟩
      clear hl1 hb1 GR NW
      go_wp2
      go_loopw [6] (fun s wr => ∃ (k : Nat) (l : List Om.Pr), s = .int .i64 k ∧ k ≤ L.length ∧ Om.One w wr N l) (fun s _ => L.length - (intOf s).toNat)
      case atStart => exact ⟨0, [], rfl, Nat.zero_le _, O1.out⟩
      case round =>
        clear O1
        obtain ⟨k, l, rfl, hk, ho⟩ := hrel
        have O := Lib.hid ho
        clear ho
        by_cases hlt : k < L.length
        · have hki : (k : Int) < (L.length : Int) := by omega
          have hsuc : IntKind.i64.wrap ((k : Int) + 1) = ((k + 1 : Nat) : Int) := by simp [IntKind.wrap, IntKind.bits, IntKind.signed]; omega
          obtain ⟨gb, off, rfl, hc, hdo⟩ := RD.out wr k hlt O.out.bel
          have HD := Lib.hid (hdo N l O.out.ml)
          obtain ⟨x, hx⟩ : ∃ x, x = L[k] := ⟨_, rfl⟩
          rw [← hx] at hc HD
          have HLT := Lib.hid hlt
          clear hdo hx hlt
          go_wp2_with (go_at_call 17; refine HD.out.mono ?_; rintro e w2 ⟨rfl, l2, g2⟩)
          have O2 := Lib.hid (O.out.done HN.out g2 l2)
          clear l2 g2
          go_roundw
          case rel => exact ⟨k + 1, _, rfl, HLT.out, O2.out⟩
          case measure => simp only [intOf]; have := HLT.out; omega
        · have hke : k = L.length := by omega
          clear hk
          subst hke
          have LI := Lib.hid (fun (wx : World) (t : ByteArray) (h : Om.Lies wx N l) => omList_lies h t)
          have LE := Lib.hid (fun (wx : World) (h : Om.Lies wx N l) => omLen_lies h)
          have hll := O.out.ml.good.len
          have HG := Lib.hid O.out.ml.good
          obtain ⟨P, hP⟩ : ∃ P, P = Om.paths l := ⟨_, rfl⟩
          have hPl : P.length = l.length := by rw [hP]; exact Om.paths_length l
          obtain ⟨Q, hQ⟩ : ∃ Q, Q = P.filter (Om.begins p) := ⟨_, rfl⟩
          have LP : Hid (∀ wx : World, Om.Lies wx N l → Calls Try.prog 25 #[.pointer (some ⟨N, 0, none⟩), .string p] wx fun e w' => ∃ A c, e = .returned (.slice A Q.length c) ∧ Om.txtsAt w' A Q ∧ Below wx.heap.size wx w') := fun wx h =>
            (LI.out wx p h).mono fun e w' ⟨A, c, h1, h2, h3⟩ => by
              rw [Om.list_of_all] at h1 h2
              exact ⟨A, c, by rw [hQ, hP]; exact h1, by rw [hQ, hP]; exact h2.txtsAt, h3⟩
          have LA : Hid (∀ wx : World, Om.Lies wx N l → Calls Try.prog 25 #[.pointer (some ⟨N, 0, none⟩), .string ⟨#[]⟩] wx fun e w' => ∃ A c, e = .returned (.slice A P.length c) ∧ Om.txtsAt w' A P ∧ Below wx.heap.size wx w') := fun wx h =>
            (LI.out wx ⟨#[]⟩ h).mono fun e w' ⟨A, c, h1, h2, h3⟩ => by
              rw [Om.list_all] at h1 h2
              exact ⟨A, c, by rw [hP]; exact h1, by rw [hP]; exact h2.txtsAt, h3⟩
          have HPL := Lib.hid hPl
          have HQ := Lib.hid hQ
          have HPP := Lib.hid hP
          have hQl : Q.length ≤ P.length := by rw [hQ]; exact List.length_filter_le _ _
          have HQL := Lib.hid hQl
          clear hP hPl hQ hQl
          go_upto_region 10 with first
            | (go_at_call 25; with_reducible refine (LP.out _ O.out.ml).mono ?_; rintro e w2 ⟨A2, c2, rfl, x2, k2⟩; have O2 := Lib.hid (O.out.step k2); have X2 := Lib.hid x2; clear k2 x2)
            | (go_at_call 25; refine (LA.out _ O2.out.ml).mono ?_; rintro e w3 ⟨A3, c3, rfl, x3, k3⟩; have O3 := Lib.hid (O2.out.step k3); have X3 := Lib.hid x3; have X2' := Lib.hid (X2.out.below k3); clear k3 x3)
          obtain ⟨M, hM⟩ : ∃ M, M = w3.heap.size := ⟨_, rfl⟩
          have HM := Lib.hid hM
          have GP : Hid (∀ wx : World, Below M w3 wx → ∀ j (hj : j < P.length), ∃ b o, A3 = some ⟨b, o, none⟩ ∧ wx.cell? ⟨b, o + j, none⟩ = some (.string P[j])) := fun wx hb j hj => X3.out.get (by rw [← hM]; exact hb) hj
          have GQ : Hid (∀ wx : World, Below M w3 wx → ∀ j (hj : j < Q.length), ∃ b o, A2 = some ⟨b, o, none⟩ ∧ wx.cell? ⟨b, o + j, none⟩ = some (.string Q[j])) := fun wx hb j hj => X2'.out.get (by rw [← hM]; exact hb) hj
          have HSM : Hid (∀ j (hj : j < P.length), P[j].size ≤ 33) := fun j hj => by
            have hm : P[j] ∈ Om.paths l := by rw [← HPP.out]; exact List.getElem_mem hj
            obtain ⟨x, hx, e⟩ := List.mem_map.1 hm
            rw [← e]; exact HG.out.path hx
          clear hM X2 X2' X3 O O2 RD LP LA
          go_wp2
          go_loopw [9, 10] (fun s9 s10 wr => ∃ i K : Nat, s10 = .int .i64 i ∧ i ≤ P.length ∧ s9 = .int .i64 K ∧ K ≤ i ∧ Hid (K = ((P.take i).filter (Om.begins p)).length) ∧ Below M w3 wr) (fun _ s _ => P.length - (intOf s).toNat)
          case atStart => exact ⟨0, 0, rfl, Nat.zero_le _, rfl, Nat.le_refl _, by show (0 : Nat) = _; simp, Below.refl _ _⟩
          case round =>
            obtain ⟨i, K, rfl, hi, rfl, hKi, hK, hb⟩ := hrel
            have HB := Lib.hid hb
            have HKI := Lib.hid hKi
            clear hb hKi
            by_cases hlt : i < P.length
            · have hii : (i : Int) < (P.length : Int) := by omega
              have hPB : P.length ≤ 48 := by rw [HPL.out]; exact HG.out.len
              have hsuc : IntKind.i64.wrap ((i : Int) + 1) = ((i + 1 : Nat) : Int) := by simp [IntKind.wrap, IntKind.bits, IntKind.signed]; omega
              have hsucK : IntKind.i64.wrap ((K : Int) + 1) = ((K + 1 : Nat) : Int) := by have := HKI.out; simp [IntKind.wrap, IntKind.bits, IntKind.signed]; omega
              obtain ⟨gp, op, rfl, xp⟩ := GP.out wr HB.out i hlt
              have hxs := HSM.out i hlt
              have hft := Om.filter_take (b := Om.begins p) hlt
              have hfa := fun h => Om.filter_at (b := Om.begins p) hlt h
              obtain ⟨x, hx⟩ : ∃ x, x = P[i] := ⟨_, rfl⟩
              rw [← hx] at xp hxs hft hfa
              rw [← hK.out] at hft hfa
              have HFT := Lib.hid hft
              have HLT := Lib.hid hlt
              by_cases hle : p.size ≤ x.size
              · have hge : (p.size : Int) ≤ (x.size : Int) := by omega
                have hsb := Om.slice_begins hle
                cases hbg : Om.begins p x with
                | true =>
                  rw [hbg] at hsb HFT
                  obtain ⟨q1, q2⟩ := hfa hbg
                  have hKQ : K < Q.length := by rw [HQ.out]; exact q1
                  have hKQi : (K : Int) < (Q.length : Int) := by omega
                  have hqx : Q[K]'hKQ = x := by
                    have := q2 q1
                    rw [← this]
                    congr 1
                  obtain ⟨gq, oq, rfl, xq⟩ := GQ.out wr HB.out K hKQ
                  rw [hqx] at xq
                  have hxx : (x.toList == x.toList) = true := Om.ba_same.2 rfl
                  clear hfa q1 q2 hqx hft hx hbg hle hK hlt hKQ hxs
                  have hKd2 : decide (Q.length ≤ K) = false := by rw [decide_eq_false_iff_not]; omega
                  have hKd : decide ((Q.length : Int) ≤ (K : Int)) = false := by rw [decide_eq_false_iff_not]; omega
                  have hne : (x.toList != x.toList) = false := by rw [bne, hxx]; rfl
                  go_upto_region 15 with (fail)
                  go_quiet (fail)
                  go_wp2
                  go_roundw
                  case rel => exact ⟨i + 1, K + 1, rfl, HLT.out, rfl, by have := HKI.out; omega, by show _ = _; have := HFT.out; simp at this; omega, Sm.below_drewN HB.out _⟩
                  case measure => simp only [intOf]; have := HLT.out; omega
                | false =>
                  rw [hbg] at hsb HFT
                  clear hfa hft hx hbg hle hK hlt hxs
                  go_wp2
                  go_roundw
                  case rel => exact ⟨i + 1, K, rfl, HLT.out, rfl, by have := HKI.out; omega, by show _ = _; have := HFT.out; simp at this; omega, HB.out⟩
                  case measure => simp only [intOf]; have := HLT.out; omega
              · have hge : (x.size : Int) < (p.size : Int) := by omega
                have hbg : Om.begins p x = false := Om.short_begins (by omega)
                rw [hbg] at HFT
                clear hfa hft hx hbg hle hK hlt hxs
                go_wp2
                go_roundw
                case rel => exact ⟨i + 1, K, rfl, HLT.out, rfl, by have := HKI.out; omega, by show _ = _; have := HFT.out; simp at this; omega, HB.out⟩
                case measure => simp only [intOf]; have := HLT.out; omega
            · have hie : i = P.length := by omega
              have hKQ : K = Q.length := by
                have := hK.out
                rw [hie, List.take_length, ← HQ.out] at this
                exact this
              clear hi hK
              subst hie hKQ
              have hpl2 : (P.length : Int) = (l.length : Int) := by rw [HPL.out]
              have PC := Lib.hid (fun wx => paCut_any wx p (by have := HP.out; omega))
              unfold Pa.cutV at PC
              have O3' : Hid (Om.One w wr N l) := O3.out.step (by have := HB.out; rw [HM.out] at this; exact this)
              cases hpo : Pa.ok p.data.toList with
              | false =>
                rw [hpo] at PC
                clear hpo
                go_wp2_with first
                  | (go_at_call 35; refine (PC.out _).mono ?_; rintro e w4 ⟨rfl, k4⟩; have O4 := Lib.hid (O3'.out.step k4); clear k4)
                  | (go_at_call 21; refine (LE.out _ O4.out.ml).mono ?_; rintro e w5 ⟨rfl, rfl⟩)
                  | (go_at_call 13; refine (AW.out _).mono ?_; rintro e w6 ⟨rfl, k6⟩; have O6 := Lib.hid (O4.out.step k6); clear k6)
                go_ret
                exact ⟨rfl, O6.out.bel⟩
              | true =>
                rw [hpo] at PC
                obtain ⟨hnm, -, -⟩ := Pa.ok_parts hpo
                have hlow := Pa.named_low hnm
                obtain ⟨m, hm⟩ : ∃ m : ByteArray, m = ⟨(Pa.cutA p.data.toList).toArray⟩ := ⟨_, rfl⟩
                have hml : m.data.toList = Pa.cutA p.data.toList := by rw [hm]
                rw [← hml] at hlow hnm
                have hmz : m.size ≤ 8 := by have := (Pa.named_len hnm).2; rw [Ba.ba_size] at this; exact this
                rw [← hm] at PC
                obtain ⟨q, hq⟩ : ∃ q, q = m ++ (⟨#[47]⟩ : ByteArray) := ⟨_, rfl⟩
                have hqs : ¬ 9223372036854775807 < m.size + 1 := by omega
                obtain ⟨T, hT⟩ : ∃ T, T = Om.list q l := ⟨_, rfl⟩
                have LQ : Hid (∀ wx : World, Om.Lies wx N l → Calls Try.prog 25 #[.pointer (some ⟨N, 0, none⟩), .string (m ++ (⟨#[47]⟩ : ByteArray))] wx fun e w' => ∃ A c, e = .returned (.slice A T.length c) ∧ Om.txtsAt w' A T ∧ Below wx.heap.size wx w') := fun wx h =>
                  by
                  rw [← hq]
                  exact (LI.out wx q h).mono fun e w' ⟨A, c, h1, h2, h3⟩ => ⟨A, c, by rw [hT]; exact h1, by rw [hT]; exact h2.txtsAt, h3⟩
                have TP : Hid (∀ j (hj : j < T.length), T[j].size ≤ 33 ∧ Pa.cutV T[j].data.toList = .tuple #[.string m, .string ⟨(Pa.cutB T[j].data.toList).toArray⟩, .bool true]) := fun j hj => by
                  have hmem : T[j] ∈ Om.list q l := by rw [← hT]; exact List.getElem_mem hj
                  obtain ⟨hbq, v, hv⟩ := Om.list_mem hmem
                  have hf := (HG.out.fair _ hv).1
                  refine ⟨HG.out.path hv, ?_⟩
                  have hok' : Pa.ok T[j].data.toList = true := hf
                  unfold Pa.cutV
                  rw [hok']
                  have e1 : Pa.cutA T[j].data.toList = m.data.toList := by
                    unfold Pa.cutA
                    rw [hok', if_pos rfl]
                    exact Om.mount_of hlow (by rw [← hq]; exact hbq)
                  rw [e1, Ba.ba_eq]
                have HTL : Hid (T.length ≤ 48) := by
                  have h1 : T.length ≤ l.length := by rw [hT]; unfold Om.list; rw [List.length_map]; exact List.length_filter_le _ _
                  have h2 := HG.out.len
                  show T.length ≤ 48
                  omega
                have HQQ := Lib.hid hq
                have HQS := Lib.hid hqs
                have HMZ := Lib.hid hmz
                clear hpo hnm hlow hm hml hq hT hqs hmz
                go_upto_region 20 with (go_at_call 35; refine (PC.out _).mono ?_; rintro e w4 ⟨rfl, k4⟩; have O4 := Lib.hid (O3'.out.step k4); clear k4)
                have hqs := HQS.out
                go_upto_region 21 with (go_at_call 25; refine (LQ.out _ O4.out.ml).mono ?_; rintro e w5 ⟨A5, c5, rfl, x5, k5⟩; have O5 := Lib.hid (O4.out.step k5); have X5 := Lib.hid x5; clear x5 k5)
                clear hqs hpl2
                have PCX := Lib.hid (fun (wx : World) (s : ByteArray) (h : s.size ≤ 281474976710656) => paCut_any wx s h)
                go_wp2
                go_loopw [15] (fun s wr => ∃ j : Nat, s = .int .i64 j ∧ j ≤ T.length ∧ Below w5.heap.size w5 wr) (fun s _ => T.length - (intOf s).toNat)
                case atStart => exact ⟨0, rfl, Nat.zero_le _, Below.refl _ _⟩
                case round =>
                  obtain ⟨j, rfl, hj, hb5⟩ := hrel
                  have B5 := Lib.hid hb5
                  clear hb5
                  by_cases hjt : j < T.length
                  · have hji : (j : Int) < (T.length : Int) := by omega
                    have hsuc : IntKind.i64.wrap ((j : Int) + 1) = ((j + 1 : Nat) : Int) := by have := HTL.out; simp [IntKind.wrap, IntKind.bits, IntKind.signed]; omega
                    obtain ⟨gt, ot, rfl, xt⟩ := X5.out.get B5.out hjt
                    obtain ⟨hts, htv⟩ := TP.out j hjt
                    have PT := Lib.hid (PCX.out wr T[j] (by omega))
                    rw [htv] at PT
                    obtain ⟨x, hx⟩ : ∃ x, x = T[j] := ⟨_, rfl⟩
                    rw [← hx] at xt PT
                    have HLT := Lib.hid hjt
                    have hmm : (m.toList == m.toList) = true := Om.ba_same.2 rfl
                    have hmn : (m.toList != m.toList) = false := by rw [bne, hmm]; rfl
                    clear hts htv hx hjt
                    go_wp2_with (go_at_call 35; refine PT.out.mono ?_; rintro e w6 ⟨rfl, k6⟩)
                    have B6 := Lib.hid (B5.out.trans (k6.mono B5.out.size))
                    clear k6
                    go_roundw
                    case rel => exact ⟨j + 1, rfl, HLT.out, B6.out⟩
                    case measure => simp only [intOf]; have := HLT.out; omega
                  · have hje : j = T.length := by omega
                    clear hj
                    subst hje
                    have O7 := Lib.hid (O5.out.step B5.out)
                    have hpl2 : (P.length : Int) = (l.length : Int) := by rw [HPL.out]
                    go_wp2_with first
                      | (go_at_call 21; refine (LE.out _ O7.out.ml).mono ?_; rintro e w8 ⟨rfl, rfl⟩)
                      | (go_at_call 13; refine (AW.out _).mono ?_; rintro e w9 ⟨rfl, k9⟩; have O9 := Lib.hid (O7.out.step k9); clear k9)
                    go_ret
                    exact ⟨rfl, O9.out.bel⟩
end Go.Proofs.Ytehkbffbehlpnaa
