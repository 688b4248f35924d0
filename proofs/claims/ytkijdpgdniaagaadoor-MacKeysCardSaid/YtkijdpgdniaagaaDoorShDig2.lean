/-
  What Digits does: a hash as digits.
-/
import Derived.Test.YtkijdpgdniaagaaDoorShDigits
import Derived.Deep.RegionLaw
namespace Go.Proofs.YtkijdpgdniaagaaDoor
open Go.RowKit
namespace Sm
/-- What a slice that is owned looks like. -/
theorem own_shape {w : World} {B e size : Nat} {v : Value} {n : Nat} {xs : List Value} (h : w.ownsRow B e size v n xs) : ∃ A c, v = .slice A n c := by
  rcases h.2 with ⟨rfl, rfl⟩ | ⟨g, cap, cur, rfl, _⟩
  · exact ⟨none, 0, rfl⟩
  · exact ⟨_, cap, rfl⟩

/-- append, onto a slice that is owned, as one step of a region that draws. -/
theorem step_append_own {P : Program} {ops : Array Oper} {o : Oper} {a : Act} {w : World} {K : Act → World → Prop} {Q : Exit → Act → World → Prop} {E : Prop}
    (hgd : o.guard = none) (s x : Operand) (t : TypeId)
    (ho : o.op = .call { callee := .builtin .append, args := #[s, x], argTypes := #[t, t] })
    (base : Nat) (e : TypeId) (i : TypeInfo) (z : Value) (size bytes : Nat) (ht : P.underlying t = some (.slice e)) (hi : P.info? e = some i) (hz : i.zero = some z)
    (hsize : i.size = size) (hby : i.bytes = bytes) (hzs : z.cells.size = size) (hsz : 0 < size)
    (v : Value) (n : Nat) (xs : List Value) (hs : a.eval s = v) (hown : w.ownsRow base e size v n xs)
    (ad : Addr) (m c : Nat) (news : List Value) (hx : a.eval x = .slice (some ad) m c) (hl : news.length = m * size) (hnews : ∀ j u, news[j]? = some u → w.cell? (ad.add j) = some u) (h1 : ∀ u ∈ news, u.oneCell' = true)
    (h63 : n + m ≤ maxLen) (hbytes : (n + m) * bytes ≤ 140737488355328) (hbase : base ≤ w.heap.size)
    (h : ∀ A' c' w', w'.ownsRow base e size (.slice A' (n + m) c') (n + m) (xs ++ news) → w.grownBy w' v.ownBlock → K (a.put o.dst (.slice A' (n + m) c')) w') :
    if Region.wanted o (yielded ops a.tmps) = true then Oper.wp P o a w K Q else E := by
  rw [if_pos (by simp [Region.wanted, hgd])]
  refine wp_append_own w s x t ho base e i z size bytes ht hi hz hsize hby hzs hsz v n xs hs hown ad m c news hx hl hnews h1 h63 hbytes hbase ?_
  intro v' w' h2 h3 _
  obtain ⟨A', c', rfl⟩ := own_shape h2
  exact h A' c' w' h2 h3


def hexes : ByteArray := ⟨#[48, 49, 50, 51, 52, 53, 54, 55, 56, 57, 97, 98, 99, 100, 101, 102]⟩
theorem hex_at (k : IntKind) (i : Nat) (h : i < 16) (w : World) : (Instr.index 9 (.string ⟨#[48, 49, 50, 51, 52, 53, 54, 55, 56, 57, 97, 98, 99, 100, 101, 102]⟩) (.int k (i : Int))).run Tryd.prog w = .ok (.int .u8 (digit i).toNat) w := by
  obtain rfl | rfl | rfl | rfl | rfl | rfl | rfl | rfl | rfl | rfl | rfl | rfl | rfl | rfl | rfl | rfl : i = 0 ∨ i = 1 ∨ i = 2 ∨ i = 3 ∨ i = 4 ∨ i = 5 ∨ i = 6 ∨ i = 7 ∨ i = 8 ∨ i = 9 ∨ i = 10 ∨ i = 11 ∨ i = 12 ∨ i = 13 ∨ i = 14 ∨ i = 15 := by omega
  all_goals kernel_rfl
theorem hash_at (l : List UInt8) (hl : l.length = 32) (k : Nat) (hk : k < 32) (w : World) : (Instr.index 24 (.agg (Lib.byteCells l).toArray) (.int .i64 (k : Int))).run Tryd.prog w = .ok (.int .u8 (l.getD k 0).toNat) w := by
  have hs : (sizeOf 5).run Tryd.prog w = .ok 1 w := by kernel_rfl
  have hc : (Lib.byteCells l)[k]? = some (.int .u8 (l.getD k 0).toNat) := byteCells_get (by omega)
  have hp : (part 5 (Lib.byteCells l).toArray k).run Tryd.prog w = .ok (.int .u8 (l.getD k 0).toNat) w := by
    have ha : (isAgg 5).run Tryd.prog w = .ok false w := by kernel_rfl
    simp [part, ha, hc]
  simp [Instr.index, run_underlying Tryd.underlying24, asIntOf, hs, hk]
  simpa using hp
theorem two_new (W : World) (a b : Value) (t : TypeId) : ∀ j u, [a, b][j]? = some u → (W.alloc (.cells #[a, b] t)).cell? ((⟨W.heap.size, 0, none⟩ : Addr).add j) = some u := fun j u hj => by
  have h := heap_alloc_new W (.cells #[a, b] t)
  rw [Addr.add_mid]
  match j, hj with
  | 0, hj => simp at hj; subst hj; exact cells_of h 0 _ rfl
  | 1, hj => simp at hj; subst hj; exact cells_of h 1 _ rfl
theorem two_one (x y : Int) : ∀ u ∈ [Value.int .u8 x, Value.int .u8 y], u.oneCell' = true := fun u hu => by
  simp at hu; rcases hu with rfl | rfl <;> rfl
theorem digits_snoc (l : List UInt8) (c : UInt8) : digits (l ++ [c]) = digits l ++ [digit (c.toNat / 16), digit (c.toNat % 16)] := by
  induction l with
  | nil => rfl
  | cons a l ih => simp [digits, ih]
theorem digits_length (l : List UInt8) : (digits l).length = 2 * l.length := by
  induction l with
  | nil => rfl
  | cons a l ih => simp [digits, ih]; omega
end Sm

set_option maxRecDepth 100000 in
set_option maxHeartbeats 2000000 in
theorem digits_any (l : List UInt8) (hl : l.length = 32) (w : World) :
    Calls Tryd.prog 17 #[.agg (Lib.byteCells l).toArray] w fun e w' => e = .returned (.string ⟨(Sm.digits l).toArray⟩) ∧ Below w.heap.size w w' := by
  obtain ⟨i0, hi, hz0, hz1, hz2⟩ := info_parts info3_u8
  have hsz32 : (Lib.byteCells l).toArray.size = 32 := by simp [Lib.byteCells, hl]
  have hinfo := Sm.infoHash hsz32
  have hix := fun k hk wx => Sm.hash_at l hl k hk wx
  have HIX := Lib.hid hix
  clear hix
  obtain ⟨cs, hcs⟩ : ∃ c, c = (Lib.byteCells l).toArray := ⟨_, rfl⟩
  rw [← hcs] at HIX hinfo ⊢
  clear hcs hsz32
  have hmk : ∀ wx : World, (Instr.makeSlice 31 (.int .i64 0) (.int .i64 64)).run Tryd.prog wx = .ok (.slice (some ⟨wx.heap.size, 0, none⟩) 0 64) (wx.alloc (.cells (madeCells (Value.int .u8 0).cells 64) 5)) := fun wx => by
    have h := run_make (P := Tryd.prog) wx 31 5 i0 (.int .u8 0) Tryd.underlying31 hi hz0 .i64 .i64 0 64 (by omega) (by omega) (by rw [hz2]; omega) (by omega)
    rw [hz1] at h
    exact h
  have hms := size_madeCells (Value.int .u8 0).cells 64
  generalize madeCells (Value.int .u8 0).cells 64 = M at *
  have HMS := Lib.hid hms
  have g1 : ∀ o, ((w.alloc o).alloc (.cells M 5)).ownsRow (w.heap.size + 1) 5 1 (.slice (some ⟨w.heap.size + 1, 0, none⟩) 0 64) 0 (Lib.byteCells (Sm.digits (l.take 0))) := fun o =>
    ⟨rfl, .inr ⟨w.heap.size + 1, 64, M, rfl, Nat.le_refl _, by have := heap_alloc_new (w.alloc o) (.cells M 5); simpa using this, by omega, by unfold maxLen; omega, by rw [hms], rfl⟩⟩
  have G1 := Lib.hid g1
  have hb0 : ∀ o, ((w.alloc (.cells cs 24)).alloc o).heap[w.heap.size]? = some (.cells cs 24 (0, 0)) := fun o => by
    rw [Below.heap_alloc _ _ _ (by simp)]; exact heap_alloc_new w _
  have HB := Lib.hid hb0
  clear hms g1 hb0
  go_enter Tryd.func17, Tryd.ntmps17
  go_wp2_with (with_reducible refine wpList_load_row rfl 24 (.tmp 1) rfl w.heap.size rfl 24 cs (0, 0) _ (by exact HB.out _) Tryd.underlying24 rfl hinfo ?_)
  have g2 : Below w.heap.size w ((w.alloc (.cells cs 24)).alloc (.cells M 5)) := ((Below.refl _ w).alloc (Nat.le_refl _) _).alloc (by simp) _
  have g3 := G1.out (.cells cs 24)
  have g4 : ((w.alloc (.cells cs 24)).alloc (.cells M 5)).heap.size = w.heap.size + 2 := by simp
  clear hmk G1 HB hinfo HMS
  generalize (w.alloc (.cells cs 24)).alloc (.cells M 5) = W1 at *
  obtain ⟨N, hN⟩ : ∃ N, N = w.heap.size + 1 := ⟨_, rfl⟩
  rw [← hN] at g3 ⊢
  have HN := Lib.hid hN
  have g5 : N ≤ W1.heap.size := by omega
  clear hN g4
  go_loopw [3, 8] (fun v i wr => ∃ (k : Nat) (A : Option Addr) (c : Nat), k ≤ 32 ∧ i = .int .i64 k ∧ v = .slice A (2 * k) c ∧ wr.ownsRow N 5 1 (.slice A (2 * k) c) (2 * k) (Lib.byteCells (Sm.digits (l.take k))) ∧ Below w.heap.size w wr ∧ N ≤ wr.heap.size) (fun _ i _ => 32 - (intOf i).toNat)
  case atStart => exact ⟨0, _, _, by omega, rfl, rfl, g3, g2, g5⟩
  case round =>
    clear g2 g3 g5
    obtain ⟨k, A, c, hk, rfl, rfl, hown, hbk, hsk⟩ := hrel
    have HO := Lib.hid hown
    clear hown
    by_cases hlt : k < 32
    · have hix := HIX.out k hlt
      have hbt := (l.getD k 0).toNat_lt
      have hsn : Sm.digits (l.take (k + 1)) = Sm.digits (l.take k) ++ [Sm.digit ((l.getD k 0).toNat / 16), Sm.digit ((l.getD k 0).toNat % 16)] := by
        rw [← Sm.digits_snoc, List.take_succ_eq_append_getElem (by omega)]
        simp [List.getD_eq_getElem?_getD, show k < l.length by omega]
      have HSN := Lib.hid hsn
      clear hsn
      generalize (l.getD k 0).toNat = x at *
      have hx1 := fun wx => Sm.hex_at .u8 (x / 16) (by omega) wx
      have hx2 := fun wx => Sm.hex_at .u8 (x % 16) (by omega) wx
      rw [show ((x / 16 : Nat) : Int) = (x : Int) / 16 by omega] at hx1
      rw [show ((x % 16 : Nat) : Int) = (x : Int) % 16 by omega] at hx2
      have ha15 : bits .and .u8 (x : Int) 15 = (x : Int) % 16 := u8_and15 _ (by omega) (by omega)
      generalize Sm.digit (x / 16) = y1 at *
      generalize Sm.digit (x % 16) = y2 at *
      go_wp2
      go_region_law (
        (refine Sm.step_append_own rfl (.tmp 11) (.tmp 18) 31 rfl N 5 i0 (.int .u8 0) 1 1 Tryd.underlying31 hi hz0 hz1 hz2 rfl (by decide) (.slice A (2 * k) c) (2 * k) _ (by simp [Act.eval]) (by exact (HO.out.alloc _)) ⟨wr.heap.size, 0, none⟩ 2 2 [.int .u8 y1.toNat, .int .u8 y2.toNat] (by simp [Act.eval]) rfl (by exact Sm.two_new wr _ _ _) (Sm.two_one _ _) (by unfold maxLen; omega) (by omega) (by simp; omega) ?_
         intro A' c' w' hown' hg'
         have HO2 := Lib.hid hown'
         have HG2 := Lib.hid hg'
         clear hown' hg'))
      all_goals
        go_wp2
        go_roundw
        case rel =>
          have ho2 := HO2.out
          rw [show Lib.byteCells (Sm.digits (l.take k)) ++ [Value.int .u8 (y1.toNat : Int), Value.int .u8 (y2.toNat : Int)] = Lib.byteCells (Sm.digits (l.take (k + 1))) by rw [HSN.out, Lib.byteCells_append]; rfl] at ho2
          have hb : Below N wr _ := (((Below.refl N wr).alloc hsk (.cells #[.int .u8 y1.toNat, .int .u8 y2.toNat] 5)).drew).grown HG2.out (by simp; omega) (fun j hj => (HO.out.lt j hj).1)
          exact ⟨k + 1, A', c', by omega, by go_num, rfl, ho2, hbk.trans (hb.mono (by have := HN.out; omega)), Nat.le_trans hsk hb.size⟩
        case measure => simp [intOf]; omega
    · obtain rfl : k = 32 := by omega
      have hd : l.take 32 = l := List.take_of_length_le (by omega)
      have h := HO.out
      rw [hd] at h
      have hlen : (Sm.digits l).length = 2 * 32 := by rw [Sm.digits_length, hl]
      have hcv : (convert 31 9 (.slice A (2 * 32) c)).run Tryd.prog wr = .ok (.string ⟨(Sm.digits l).toArray⟩) wr := by
        rcases h.2 with ⟨hv, hn⟩ | ⟨g, cap, cur, hv, hBg, hh, hn, hcap, hcs, htk⟩
        · omega
        · simp only [Value.slice.injEq] at hv
          obtain ⟨rfl, _, rfl⟩ := hv
          have e := run_convert_bytes_back (P := Tryd.prog) wr 31 9 5 ⟨g, 0, none⟩ c (Sm.digits l) Tryd.underlying31 Tryd.underlying5 Tryd.underlying9 (fun j hj => h.cells (g := g) rfl j _ (by simp [Lib.byteCells, hj]))
          rw [hlen] at e
          exact e
      clear h hd hlen
      go_wp2
      go_ret
      exact ⟨rfl, hbk⟩
end Go.Proofs.YtkijdpgdniaagaaDoor
