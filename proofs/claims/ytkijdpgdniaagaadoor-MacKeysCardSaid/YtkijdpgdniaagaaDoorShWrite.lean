/-
  What Write does: a text put behind what was written.
-/
import Derived.Test.YtkijdpgdniaagaaDoorShTurn
import Derived.Lib.BufferWrite
import Derived.StillTailTactics
namespace Go.Proofs.YtkijdpgdniaagaaDoor
open Go.RowKit
namespace Sm

/-- A Sha lies in block b to which t was written. -/
def Is (w : World) (b : Nat) (t : List UInt8) : Prop := ∃ wt : List UInt8, wt.length = 64 ∧ wt.take (t.length % 64) = tail t ∧ At w b true (st t) wt t.length
theorem Is.low {w w' : World} {b : Nat} {t : List UInt8} (h : Is w b t) (k : Below w.heap.size w w') : Is w' b t := let ⟨wt, h1, h2, h3⟩ := h; ⟨wt, h1, h2, h3.low k⟩
theorem Is.lt {w : World} {b : Nat} {t : List UInt8} (h : Is w b t) : b < w.heap.size := let ⟨_, _, _, h3⟩ := h; h3.lt

/-- What a copy out of a string, cut at the row's end, does. -/
theorem run_copy_cut {P : Program} (w : World) (dT sT ty elem : TypeId) (g o dLen dCap : Nat) (s : ByteArray) (cur : Array Value) (t : TypeId) (k : Nat) (hk : k = min s.size dLen)
    (hu : P.underlying dT = some (.slice elem)) (hs : (P.info? elem).map (·.size) = some 1) (hg : w.heap[g]? = some (.cells cur t (0, 0))) (hfit : o + k ≤ cur.size) :
    (Builtin.copy_ #[dT, sT] ty #[.slice (some ⟨g, o, none⟩) dLen dCap, .string s]).run P w =
      .ok (goInt k) (w.setRow g (cur.toList.take o ++ Lib.byteCells (s.data.toList.take k) ++ cur.toList.drop (o + k)).toArray) := by
  have hmin : Nat.min s.size dLen = k := hk.symm
  have hks : k ≤ s.data.toList.length := by have : s.data.toList.length = s.size := rfl; omega
  have hlen : (Lib.byteCells (s.data.toList.take k)).length = k := by rw [Lib.byteCells_length, List.length_take]; omega
  have hst := run_storeCells_at P g o t (Lib.byteCells (s.data.toList.take k)) 0 cur w hg (by rw [hlen]; simpa using hfit) (Lib.byteCells_one _)
  have htk : List.take k (List.map (fun b : UInt8 => Value.int IntKind.u8 (b.toNat : Int)) s.data.toList) = Lib.byteCells (s.data.toList.take k) := by rw [Lib.byteCells, List.map_take]
  rw [hlen] at hst
  simp only [Nat.add_zero] at hst
  cases hq : P.info? elem with
  | none => simp [hq] at hs
  | some i =>
    simp [Builtin.copy_, run_underlying hu, Builtin.lenOf, Builtin.firstCells, sizeOf, typeInfo, hq, hmin]
    rw [htk, hst]
    simp [Result.andThen]
theorem wpList_copy_cut {P : Program} {w : World} {ops : Array Oper} {rest : List Oper} {o : Oper} {a : Act} {Q : Exit → Act → World → Prop} (hgd : o.guard = none) (d s : Operand) (dT sT : TypeId)
    (ho : o.op = .call { callee := .builtin .copy, args := #[d, s], argTypes := #[dT, sT] }) (elem : TypeId) (hu : P.underlying dT = some (.slice elem)) (hsz : (P.info? elem).map (·.size) = some 1)
    (g off dLen dCap : Nat) (str : ByteArray) (hd : a.eval d = .slice (some ⟨g, off, none⟩) dLen dCap) (hs : a.eval s = .string str) (k : Nat) (hk : k = min str.size dLen)
    (cur : Array Value) (t : TypeId) (hg : w.heap[g]? = some (.cells cur t (0, 0))) (hfit : off + k ≤ cur.size)
    (h : wpList P ops Q rest (a.put o.dst (.int .i64 k)) (w.setRow g (cur.toList.take off ++ Lib.byteCells (str.data.toList.take k) ++ cur.toList.drop (off + k)).toArray)) : wpList P ops Q (o :: rest) a w := by
  refine wpList_plain hgd fun K hK => ?_
  have hrun := run_copy_cut (P := P) w dT sT o.type elem g off dLen dCap str cur t k hk hu hsz hg hfit
  unfold Oper.wp
  simp [execOp, ho, resolve, invoke, builtin, hd, hs, hrun, Result.andThen]
  rw [List.append_assoc] at h
  exact hK _ _ h

theorem ext_end (s : ByteArray) (a : Nat) : (s.extract a s.size).data.toList = s.data.toList.drop a := by
  rw [Lib.extract_data, List.take_of_length_le (by rw [List.length_drop]; exact Nat.le_refl _)]
theorem cells_size (m : Bool) (v : V) (wt : List UInt8) (n : Nat) (hl : wt.length = 64) : (cells m v wt n).size = 74 := by simp [cells, nums, V.l, Lib.byteCells, hl]
/-- The cells of a Sha in which bytes were copied to what waits. -/
theorem cells_copy (m : Bool) (v : V) (wt p : List UInt8) (n i : Nat) (hl : wt.length = 64) (hi : i + p.length ≤ 64) :
    ((cells m v wt n).toList.take (9 + i) ++ Lib.byteCells p ++ (cells m v wt n).toList.drop (9 + i + p.length)).toArray = cells m v (wt.take i ++ (p ++ wt.drop (i + p.length))) n := by
  have hA : (Value.bool m :: nums v.l).length = 9 := by simp [nums, V.l]
  have e : (cells m v wt n).toList = (Value.bool m :: nums v.l) ++ (Lib.byteCells wt ++ [.int .i64 (n : Int)]) := by simp [cells]
  have hb : (Lib.byteCells wt).length = 64 := by rw [Lib.byteCells_length, hl]
  have e1 : (cells m v wt n).toList.take (9 + i) = (Value.bool m :: nums v.l) ++ Lib.byteCells (wt.take i) := by
    rw [e, List.take_append, hA, List.take_of_length_le (by omega), show 9 + i - 9 = i by omega, List.take_append_of_le_length (by omega), Lib.byteCells, Lib.byteCells, List.map_take]
  have e2 : (cells m v wt n).toList.drop (9 + i + p.length) = Lib.byteCells (wt.drop (i + p.length)) ++ [.int .i64 (n : Int)] := by
    rw [e, List.drop_append, hA, List.drop_of_length_le (by omega), List.nil_append, show 9 + i + p.length - 9 = i + p.length by omega, List.drop_append_of_le_length (by omega), Lib.byteCells, Lib.byteCells, List.map_drop]
  rw [e1, e2]
  simp [cells, Lib.byteCells]
theorem cells_len (m : Bool) (v : V) (wt : List UInt8) (n k : Nat) (hl : wt.length = 64) : (cells m v wt n).setIfInBounds 73 (.int .i64 (k : Int)) = cells m v wt k := by
  apply Array.ext'
  have e : ∀ n : Nat, (cells m v wt n).toList = ((Value.bool m :: nums v.l) ++ Lib.byteCells wt) ++ [.int .i64 (n : Int)] := fun n => by simp [cells]
  have h1 : ((Value.bool m :: nums v.l) ++ Lib.byteCells wt).length = 73 := by simp [nums, V.l, Lib.byteCells, hl]
  rw [Array.toList_setIfInBounds, e, e, List.set_append_right _ _ (by omega), h1]
  rfl
end Sm

def strLen : Value → Nat
  | .string s => s.size
  | _ => 0
theorem info_u8 : (Tryd.prog.info? 5).map (·.size) = some 1 := by kernel_rfl

set_option maxRecDepth 100000 in
set_option maxHeartbeats 4000000 in
theorem write_any {w : World} {b : Nat} {t : List UInt8} (s : ByteArray) (his : Sm.Is w b t) (hK : Sm.KAt w) (h1 : b ≠ 1) (hsz : 1 < w.heap.size) (hlen : t.length + s.size ≤ 4611686018427387904) :
    Calls Tryd.prog 22 #[.pointer (some ⟨b, 0, none⟩), .string s] w fun e w' => e = .returned (.int .i64 s.size) ∧ w.grownBy w' (some b) ∧ Sm.Is w' b (t ++ s.data.toList) := by
  have hmade := his.choose_spec.2.2.made
  have HIS := Lib.hid his
  have HK := Lib.hid hK
  clear his hK
  go_enter Tryd.func22, Tryd.ntmps22
  go_wp2
  go_loopw [5] (fun r wr => ∃ (q : List UInt8) (rs : ByteArray), r = .string rs ∧ q ++ rs.data.toList = t ++ s.data.toList ∧ Sm.Is wr b q ∧ w.grownBy wr (some b)) (fun r _ => strLen r)
  case atStart => exact ⟨t, s, rfl, rfl, HIS.out, Sm.grown_refl _ _⟩
  case round =>
    obtain ⟨q, rs, rfl, hqs, hin, hgr⟩ := hrel
    have HQ := Lib.hid hqs
    have hlq : q.length + rs.size ≤ 4611686018427387904 := by
      have := congrArg List.length hqs
      rw [List.length_append, List.length_append] at this
      have e1 : rs.data.toList.length = rs.size := rfl
      have e2 : s.data.toList.length = s.size := rfl
      omega
    clear hqs
    by_cases hz : rs.size = 0
    · have hemp : rs.toList.isEmpty = true := by rw [Lib.toList_data]; exact List.isEmpty_iff.2 (List.eq_nil_of_length_eq_zero hz)
      go_wp2
      go_ret
      have e : rs.data.toList = [] := List.eq_nil_of_length_eq_zero hz
      have h := HQ.out
      rw [e, List.append_nil] at h
      exact ⟨rfl, hgr, by rw [← h]; exact hin⟩
    · have hemp : rs.toList.isEmpty = false := by
        rw [Lib.toList_data, Bool.eq_false_iff]; intro h; exact hz (by rw [List.isEmpty_iff] at h; show rs.data.toList.length = 0; rw [h]; rfl)
      obtain ⟨wt, hwl, hwt, hat⟩ := hin
      have HWT := Lib.hid hwt
      have HA := Lib.hid hat
      have c73 := hat.len hwl
      have f73 := hat.free 73
      have hsl := fun wx => Sm.slice64 b 9 (q.length % 64) (Nat.mod_lt _ (by decide)) wx
      rw [show ((q.length % 64 : Nat) : Int) = (q.length : Int) % 64 by omega] at hsl
      clear hwt hat
      obtain ⟨k, hk⟩ : ∃ k, k = min rs.size (64 - q.length % 64) := ⟨_, rfl⟩
      have hk1 : k ≤ rs.size := by omega
      have hk2 : k ≤ 64 - q.length % 64 := by omega
      have hk3 : 1 ≤ k := by omega
      have hsz74 := Sm.cells_size true (Sm.st q) wt q.length hwl
      have hpl : (rs.data.toList.take k).length = k := by rw [List.length_take]; have : rs.data.toList.length = rs.size := rfl; omega
      have hcp : (Builtin.copy_ #[31, 9] 3 #[.slice (some ⟨b, 9 + q.length % 64, none⟩) (64 - q.length % 64) (64 - q.length % 64), .string rs]).run Tryd.prog wr =
          .ok (.int .i64 k) (wr.setRow b (Sm.cells true (Sm.st q) (wt.take (q.length % 64) ++ (rs.data.toList.take k ++ wt.drop (q.length % 64 + k))) q.length)) := by
        have h := Sm.run_copy_cut (P := Tryd.prog) wr 31 9 3 5 b (9 + q.length % 64) (64 - q.length % 64) (64 - q.length % 64) rs _ 73 k hk Tryd.underlying31 info_u8 HA.out (by rw [hsz74]; omega)
        have e := Sm.cells_copy true (Sm.st q) wt (rs.data.toList.take k) q.length (q.length % 64) hwl (by rw [hpl]; omega)
        rw [hpl] at e
        rw [e] at h
        exact h
      rw [HWT.out] at hcp
      obtain ⟨w2, hw2⟩ : ∃ w2, w2 = wr.setRow b (Sm.cells true (Sm.st q) (Sm.tail q ++ (rs.data.toList.take k ++ wt.drop (q.length % 64 + k))) q.length) := ⟨_, rfl⟩
      have HA2 : Hid (Sm.At w2 b true (Sm.st q) (Sm.tail q ++ (rs.data.toList.take k ++ wt.drop (q.length % 64 + k))) q.length) := by
        rw [hw2]; exact setRow_heap wr b _ _ _ _ HA.out
      have hg2 : w.grownBy w2 (some b) := by
        rw [hw2]; exact Sm.grown_trans hgr ⟨rfl, rfl, rfl, by rw [size_setRow]; exact Nat.le_refl _, fun i _ hn => setRow_other _ _ _ _ (fun e => hn (by rw [e]))⟩
      rw [← hw2] at hcp
      clear hw2
      have hl2 : (Sm.tail q ++ (rs.data.toList.take k ++ wt.drop (q.length % 64 + k))).length = 64 := by
        rw [List.length_append, List.length_append, Sm.tail_length, hpl, List.length_drop, hwl]; omega
      have hdrop : q.length % 64 + k = 64 → wt.drop (q.length % 64 + k) = [] := fun h => List.drop_of_length_le (by omega)
      have HDROP := Lib.hid hdrop
      clear hdrop
      obtain ⟨p, hp⟩ : ∃ p, p = rs.data.toList.take k := ⟨_, rfl⟩
      rw [← hp] at HA2 hl2 hpl
      have c73b := HA2.out.len hl2
      have f73b := HA2.out.free 73
      have hqs2 : (q ++ p) ++ (rs.extract k rs.size).data.toList = t ++ s.data.toList := by
        rw [← HQ.out, List.append_assoc, hp]
        rw [Sm.ext_end, List.take_append_drop]
      have HP := Lib.hid hp
      have HQ2 := Lib.hid hqs2
      have HCP := Lib.hid hsz74
      have HKK := Lib.hid hk
      clear hp hqs2 hsz74 HIS HWT hk
      have hk4 : (k : Int) ≤ rs.size := by omega
      by_cases hfull : q.length % 64 + k = 64
      · have hfi : (q.length : Int) % 64 + k = 64 := by omega
        have hfb : ((q.length : Int) % 64 + k == 64) = true := by rw [beq_iff_eq]; exact hfi
        have hd0 := HDROP.out hfull
        rw [hd0, List.append_nil] at HA2 hl2
        have hst := Sm.st_full q p (by rw [hpl]; omega)
        have hA3 : Hid (Sm.At (w2.setCell ⟨b, 73, none⟩ (.int .i64 ((q.length : Int) + k))) b true (Sm.st q) (Sm.tail q ++ p) (q.length + k)) := by
          have h := Sm.heap_set HA2.out 73 (.int .i64 ((q.length + k : Nat) : Int))
          rw [Sm.cells_len _ _ _ _ _ hl2] at h
          exact h
        have hg3 := Sm.grown_set hg2 73 (.int .i64 ((q.length : Int) + k))
        have hk3 := HK.out.grown hg3 h1 hsz
        have hs3 := Nat.lt_of_lt_of_le hsz hg3.size
        have HST := Lib.hid hst
        have HL2 := Lib.hid hl2
        have HK3 := Lib.hid hk3
        clear hst hd0 hk3 hl2
        go_wp2_with fail
        generalize w2.setCell ⟨b, 73, none⟩ (.int .i64 ((q.length : Int) + k)) = w3 at *
        go_still_tail 6, (by kernel_rfl)
        have hA4 : Sm.At w3.drew b true (Sm.st q) (Sm.tail q ++ p) (q.length + k) := hA3.out
        have hg4 : w.grownBy w3.drew (some b) := grown_drew hg3
        have hK4 : Sm.KAt w3.drew := HK3.out
        have hs4 : 1 < w3.drew.heap.size := hs3
        have HA4 := Lib.hid hA4
        have HK4 := Lib.hid hK4
        clear hA4 hK4
        change wpList _ _ _ _ _ w3.drew
        generalize w3.drew = w4 at *
        go_wp2_with fail
        refine (turn_any HA4.out (Sm.st_ok q) HL2.out HK4.out h1 hs4).mono ?_
        rintro e w5 ⟨rfl, hg5, ha5⟩
        have HA5 := Lib.hid ha5
        clear ha5
        go_wp2
        go_roundw
        case rel =>
          refine ⟨q ++ p, _, rfl, HQ2.out, ?_, Sm.grown_trans hg4 hg5⟩
          refine ⟨_, HL2.out, ?_, ?_⟩
          · rw [HST.out.2, show (q ++ p).length % 64 = 0 by rw [List.length_append, hpl]; omega]; rfl
          · rw [HST.out.1, List.length_append, hpl]
            exact HA5.out
        case measure =>
          have : (rs.extract k rs.size).size = rs.size - k := by simp
          simp only [strLen, this]
          omega
      · have hfi : ((q.length : Int) % 64 + k == 64) = false := by rw [beq_eq_false_iff_ne]; omega
        have hfi2 : ¬ ((q.length : Int) % 64 + k = 64) := by omega
        go_wp2
        go_roundw
        case rel =>
          have hst := Sm.st_short q p (by rw [hpl]; omega)
          refine ⟨q ++ p, _, rfl, HQ2.out, ?_, Sm.grown_set hg2 73 (.int .i64 ((q.length : Int) + k))⟩
          refine ⟨_, hl2, ?_, ?_⟩
          · rw [hst.2, ← List.append_assoc, List.length_append, hpl, List.take_append_of_le_length (by rw [List.length_append, Sm.tail_length, hpl]; omega), List.take_of_length_le (by rw [List.length_append, Sm.tail_length, hpl]; omega)]
          · have h := Sm.heap_set HA2.out 73 (.int .i64 ((q.length + k : Nat) : Int))
            rw [Sm.cells_len _ _ _ _ _ hl2] at h
            rw [hst.1, List.length_append, hpl]
            exact h
        case measure =>
          have : (rs.extract k rs.size).size = rs.size - k := by simp
          simp only [strLen, this]
          omega
end Go.Proofs.YtkijdpgdniaagaaDoor
