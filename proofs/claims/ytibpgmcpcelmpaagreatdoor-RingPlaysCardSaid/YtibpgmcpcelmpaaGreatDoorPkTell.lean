/-
  Texts that belong together, laid into one.
-/
import Derived.Test.YtibpgmcpcelmpaaGreatDoorMPack
import Derived.ProofKit
import Derived.Deep.Slices
import Derived.Deep.Fields
import Derived.Deep.RegionHeld3
import Derived.Deep.QuietTactic
import Derived.BigQuiet
/-
  wakes: what is written is read: it answers true and turns nothing of what was there.
-/
namespace Go.Proofs.YtibpgmcpcelmpaaGreatDoor
open Go.RowKit Pk

theorem Tryz.own : ownKnob Tryz.prog.godebug = none := by kernel_rfl
theorem Tryz.laidOut : laidOutB Tryz.prog = true := by kernel_rfl

theorem Stp.from {w w' : World} {b B : Nat} {r : Rd} (h : Stp w w' b r) (hb : B ≤ b) (hB : B ≤ w.heap.size) : Below B w w' :=
  ⟨h.grown.os, h.grown.tape, h.grown.output, h.grown.size, fun k hk => h.grown.block k (by omega) (fun e => by have := Option.some.inj e; omega)⟩
theorem inAt.below {w w' : World} {b : Nat} {r : Rd} (h : inAt w b r) (k : Below w.heap.size w w') : inAt w' b r := (k.block b h.lt).trans h
theorem inAt.stp {w w' : World} {b b' : Nat} {r r' : Rd} (h : inAt w b r) (k : Stp w w' b' r') (hne : b ≠ b') : inAt w' b r := (k.grown.block b h.lt (fun e => hne (Option.some.inj e))).trans h
theorem chainS {w w1 w2 : World} {B b : Nat} {r : Rd} (k : Below B w w1) (hB : B ≤ w.heap.size) (h : Stp w1 w2 b r) (hb : B ≤ b) : Below B w w2 := k.trans (h.from hb (Nat.le_trans hB k.size))
theorem chainO {w w1 w2 : World} {B : Nat} (k : Below B w w1) (hB : B ≤ w.heap.size) (h : Below w1.heap.size w1 w2) : Below B w w2 := k.trans (h.mono (Nat.le_trans hB k.size))
theorem below_drewN {B : Nat} {w w' : World} (h : Below B w w') (n : Nat) : Below B w (w'.drewN n) := ⟨h.os, h.tape, h.output, h.size, h.block⟩
theorem outAt.drewN {w : World} {B o : Nat} {bs : List UInt8} (h : outAt w B o bs) (n : Nat) : outAt (w.drewN n) B o bs := h

theorem wake_bytes : (([] ++ enc 128) ++ enc (zig (-65))) ++ (enc 2 ++ [97, 98]) = [128, 1, 129, 1, 2, 97, 98] := by
  have h1 : enc 128 = [128, 1] := by rw [enc_big (by decide), enc_small (by decide)]; rfl
  have h2 : zig (-65) = 129 := rfl
  have h3 : enc 129 = [129, 1] := by rw [enc_big (by decide), enc_small (by decide)]; rfl
  have h4 : enc 2 = [2] := by rw [enc_small (by decide)]; rfl
  rw [h1, h2, h3, h4]
  rfl

def wakeS : ByteArray := ⟨#[128, 1, 129, 1, 2, 97, 98]⟩
theorem wake_ok (n : Nat) (h : n ≤ 7) : Rd.Ok ⟨wakeS, n, 0⟩ := ⟨h, Nat.zero_le _, by show wakeS.size ≤ _; decide⟩
theorem wake_num : Rd.num ⟨wakeS, 0, 0⟩ = (128, ⟨wakeS, 2, 0⟩) := rfl
theorem wake_int : Rd.num ⟨wakeS, 2, 0⟩ = (129, ⟨wakeS, 4, 0⟩) := rfl
theorem wake_zag : zag 129 = -65 := rfl
theorem wake_text : Rd.text ⟨wakeS, 4, 0⟩ 2 = ([97, 98], ⟨wakeS, 7, 0⟩) := rfl
theorem wake_fin : Rd.fin ⟨wakeS, 7, 0⟩ = 0 := rfl

end Go.Proofs.YtibpgmcpcelmpaaGreatDoor

/-
  Items that lie in a block; what the statements' helper writes does.
-/
namespace Go.Proofs.YtibpgmcpcelmpaaGreatDoor
open Go.RowKit Pk

/-- Items lie in block b, from off on. -/
def itemAt (w : World) (b o : Nat) (a : It) : Prop :=
  w.cell? ⟨b, o, none⟩ = some (.int .u8 a.d) ∧ w.cell? ⟨b, o + 1, none⟩ = some (.int .u64 a.n) ∧ w.cell? ⟨b, o + 2, none⟩ = some (.int .i64 a.i) ∧
  w.cell? ⟨b, o + 3, none⟩ = some (.string a.s) ∧ w.cell? ⟨b, o + 4, none⟩ = some (.int .u8 a.b) ∧ w.cell? ⟨b, o + 5, none⟩ = some (.int .i64 a.m)
def itemsAt (w : World) (b off : Nat) (l : List It) : Prop := ∀ k (hk : k < l.length), itemAt w b (off + k * 6) l[k]

theorem ret_bool {a b : Bool} (h : a = b) : Ending.returned (.bool a) = .returned (.bool b) := by rw [h]

theorem itemAt.below {w w' : World} {b o B : Nat} {a : It} (h : itemAt w b o a) (k : Below B w w') (hb : b < B) : itemAt w' b o a := by
  have e : ∀ x, w'.cell? ⟨b, x, none⟩ = w.cell? ⟨b, x, none⟩ := fun x => k.cell (p := ⟨b, x, none⟩) hb
  unfold itemAt
  simp only [e]
  exact h
theorem itemsAt.below {w w' : World} {b off B : Nat} {l : List It} (h : itemsAt w b off l) (k : Below B w w') (hb : b < B) : itemsAt w' b off l := fun j hj => (h j hj).below k hb

end Go.Proofs.YtibpgmcpcelmpaaGreatDoor

/-
  What the statements' helpers do: read, bare.
-/
namespace Go.Proofs.YtibpgmcpcelmpaaGreatDoor
open Go.RowKit Pk

/-- What is read for an item, and the reader behind it. -/
def rdI (r : Rd) (a : It) : It × Rd :=
  if a.d = 0 then (⟨0, r.num.1, 0, ⟨#[]⟩, 0, 0⟩, r.num.2)
  else if a.d = 1 then (⟨0, 0, zag r.num.1, ⟨#[]⟩, 0, 0⟩, r.num.2)
  else if a.d = 2 then (⟨0, 0, 0, ⟨(r.text a.m).1.toArray⟩, 0, 0⟩, (r.text a.m).2)
  else if a.d = 3 then (⟨0, 0, 0, ⟨#[]⟩, r.byte.1, 0⟩, r.byte.2)
  else (⟨0, (r.most a.m).1, 0, ⟨#[]⟩, 0, 0⟩, (r.most a.m).2)

def itV (a : It) : Value := .agg #[.int .u8 a.d, .int .u64 a.n, .int .i64 a.i, .string a.s, .int .u8 a.b, .int .i64 a.m]

theorem rdI_ok {r : Rd} (hr : r.Ok) (a : It) : (rdI r a).2.Ok := by
  unfold rdI
  split
  · exact hr.num
  · split
    · exact hr.num
    · split
      · exact hr.text a.m
      · split
        · exact hr.byte
        · exact hr.most a.m

def zeroCells : Array Value := #[.int .u8 0, .int .u64 0, .int .i64 0, .string ⟨#[]⟩, .int .u8 0, .int .i64 0]
def set6 (w : World) (k : Nat) (v0 v1 v2 v3 v4 v5 : Value) : World :=
  ((((((w.setCell ⟨k, 0, none⟩ v0).setCell ⟨k, 1, none⟩ v1).setCell ⟨k, 2, none⟩ v2).setCell ⟨k, 3, none⟩ v3).setCell ⟨k, 4, none⟩ v4).setCell ⟨k, 5, none⟩ v5)
theorem set6_other (w : World) (k : Nat) (v0 v1 v2 v3 v4 v5 : Value) (j : Nat) (h : j ≠ k) : (set6 w k v0 v1 v2 v3 v4 v5).heap[j]? = w.heap[j]? := by
  unfold set6
  rw [Below.heap_setCell _ ⟨k, 5, none⟩ _ j h, Below.heap_setCell _ ⟨k, 4, none⟩ _ j h, Below.heap_setCell _ ⟨k, 3, none⟩ _ j h, Below.heap_setCell _ ⟨k, 2, none⟩ _ j h, Below.heap_setCell _ ⟨k, 1, none⟩ _ j h, Below.heap_setCell _ ⟨k, 0, none⟩ _ j h]
theorem set6_grown {a w : World} {k : Nat} {B : Nat} (h : Below B a w) (hk : B ≤ k) (v0 v1 v2 v3 v4 v5 : Value) : Below B a (set6 w k v0 v1 v2 v3 v4 v5) := by
  have s0 := h.setCell (p := ⟨k, 0, none⟩) hk v0
  have s1 := s0.setCell (p := ⟨k, 1, none⟩) hk v1
  have s2 := s1.setCell (p := ⟨k, 2, none⟩) hk v2
  have s3 := s2.setCell (p := ⟨k, 3, none⟩) hk v3
  have s4 := s3.setCell (p := ⟨k, 4, none⟩) hk v4
  exact s4.setCell (p := ⟨k, 5, none⟩) hk v5
theorem most_lt (r : Rd) (m : Int) : (r.most m).1 < 2 ^ 64 := by
  unfold Rd.most
  simp only
  split
  · exact (cnt_bd r.rest m).1
  · omega

end Go.Proofs.YtibpgmcpcelmpaaGreatDoor

/-
  What the statements' helper bare does.
-/
namespace Go.Proofs.YtibpgmcpcelmpaaGreatDoor
open Go.RowKit Pk

/-- What of an item counts. -/
def bareI (a : It) : It :=
  if a.d = 0 then ⟨0, a.n, 0, ⟨#[]⟩, 0, 0⟩
  else if a.d = 1 then ⟨0, 0, a.i, ⟨#[]⟩, 0, 0⟩
  else if a.d = 2 then ⟨0, 0, 0, a.s, 0, 0⟩
  else if a.d = 3 then ⟨0, 0, 0, ⟨#[]⟩, a.b, 0⟩
  else ⟨0, 0, 0, ⟨#[]⟩, 0, 0⟩

end Go.Proofs.YtibpgmcpcelmpaaGreatDoor

/-
  What the statements' helper written does: the items that can be written, each with a bound that its text keeps.
-/
namespace Go.Proofs.YtibpgmcpcelmpaaGreatDoor
open Go.RowKit Pk

def keepI (a : It) : It := ⟨a.d, a.n, a.i, a.s, a.b, a.s.size⟩
def writtenL (l : List It) : List It := (l.filter fun a => decide (a.d < 4)).map keepI
def itCells (a : It) : List Value := [.int .u8 a.d, .int .u64 a.n, .int .i64 a.i, .string a.s, .int .u8 a.b, .int .i64 a.m]

theorem writtenL_take {l : List It} {k : Nat} (h : k < l.length) : writtenL (l.take (k + 1)) = writtenL (l.take k) ++ (if l[k].d < 4 then [keepI l[k]] else []) := by
  rw [List.take_succ_eq_append_getElem h]
  unfold writtenL
  rw [List.filter_append, List.map_append]
  by_cases hd : l[k].d < 4 <;> simp [hd]
theorem writtenL_len (l : List It) : (writtenL l).length ≤ l.length := by
  unfold writtenL
  rw [List.length_map]
  exact List.length_filter_le _ _
theorem writtenL_total (l : List It) : total (writtenL l) ≤ total l := by
  induction l with
  | nil => simp [writtenL]
  | cons a l ih =>
    have e : writtenL (a :: l) = (if a.d < 4 then [keepI a] else []) ++ writtenL l := by
      unfold writtenL
      by_cases hd : a.d < 4 <;> simp [hd]
    rw [e, total_append, total_cons]
    split
    · simp [total, keepI] at *; omega
    · simp [total] at *; omega
theorem writtenL_ok {l : List It} (h : ∀ a ∈ l, a.Ok) : ∀ a ∈ writtenL l, a.Ok ∧ a.d < 4 ∧ a.m = a.s.size := by
  intro a ha
  obtain ⟨b, hb, rfl⟩ := List.mem_map.1 ha
  rw [List.mem_filter] at hb
  obtain ⟨h1, h2, h3, h4, h5, h6⟩ := h b hb.1
  exact ⟨⟨h1, h2, h3, h4, h5, by show -9223372036854775808 ≤ (b.s.size : Int) ∧ (b.s.size : Int) ≤ 9223372036854775807; omega⟩, of_decide_eq_true hb.2, rfl⟩

theorem ret_slice {A : Option Addr} {n n' c : Nat} (h : n = n') : Ending.returned (.slice A n c) = .returned (.slice A n' c) := by rw [h]

theorem six_one (a : It) : ∀ u ∈ itCells a, u.oneCell' = true := by
  intro u hu
  simp [itCells] at hu
  rcases hu with rfl | rfl | rfl | rfl | rfl | rfl <;> rfl

theorem flat_at (l : List It) : ∀ (k : Nat) (hk : k < l.length) (j : Nat), j < 6 → (l.flatMap itCells)[k * 6 + j]? = (itCells l[k])[j]? := by
  induction l with
  | nil => intro k hk; simp at hk
  | cons a l ih =>
    intro k hk j hj
    rw [List.flatMap_cons]
    have h6 : (itCells a).length = 6 := rfl
    cases k with
    | zero => rw [List.getElem?_append_left (by omega)]; simp
    | succ k =>
      rw [List.getElem?_append_right (by omega), h6, show (k + 1) * 6 + j - 6 = k * 6 + j from by omega]
      exact ih k (by simpa using hk) j hj

end Go.Proofs.YtibpgmcpcelmpaaGreatDoor

/-
  What was written is read again: an item's bytes, read by the same call, tell the item, and the reader stands behind them.
-/
namespace Go.Proofs.YtibpgmcpcelmpaaGreatDoor
open Go.RowKit Pk

theorem dec_back {n : Nat} (hn : n < 2 ^ 64) (tail : List UInt8) : dec 0 0 (enc n ++ tail) = (n, (enc n).length, 0) := by
  have := dec_enc n 0 0 tail (by simpa using hn) (by omega) (by omega)
  simpa using this
theorem cnt_back {n : Nat} (hn : n < 2 ^ 64) (tail : List UInt8) {m : Int} (hm : (n : Int) ≤ m) : cnt (enc n ++ tail) m = (n, (enc n).length, 0) := by
  unfold cnt
  rw [dec_back hn, if_neg (by omega)]

theorem rd_num {r : Rd} {n : Nat} {tail : List UInt8} (hf : r.f = 0) (hr : r.rest = enc n ++ tail) (hn : n < 2 ^ 64) : r.num = (n, ⟨r.s, r.pos + (enc n).length, 0⟩) := by
  unfold Rd.num
  rw [hr, dec_back hn, pass_true hf rfl, go_ok hf, hf]
  rfl

theorem rd_back {r : Rd} {a : It} {tail : List UInt8} (hf : r.f = 0) (hr : r.rest = encI a ++ tail) (ha : a.Ok) (hd : a.d < 4) (hm : a.m = a.s.size) :
    rdI r a = (bareI a, ⟨r.s, r.pos + (encI a).length, 0⟩) := by
  obtain ⟨h1, h2, h3, h4, h5, h6⟩ := ha
  unfold encI at hr ⊢
  unfold rdI bareI
  by_cases d0 : a.d = 0
  · simp only [if_pos d0] at hr ⊢
    rw [rd_num hf hr h2]
  · simp only [if_neg d0] at hr ⊢
    by_cases d1 : a.d = 1
    · simp only [if_pos d1] at hr ⊢
      rw [rd_num hf hr (zig_lt h3)]
      simp only [zag_zig]
    · simp only [if_neg d1] at hr ⊢
      by_cases d2 : a.d = 2
      · simp only [if_pos d2] at hr ⊢
        have hc : cnt r.rest a.m = (a.s.size, (enc a.s.size).length, 0) := by
          rw [hr, List.append_assoc]
          exact cnt_back (by omega) _ (by omega)
        have hl : r.rest.length = (enc a.s.size).length + a.s.size + tail.length := by
          rw [hr]; simp; omega
        have ht : terr r.rest a.m = 0 := by
          unfold terr
          rw [hc]
          exact if_neg (by simp only; omega)
        have htext : r.text a.m = (a.s.data.toList, ⟨r.s, r.pos + ((enc a.s.size).length + a.s.size), 0⟩) := by
          unfold Rd.text
          rw [hc, ht, pass_true hf rfl, if_pos rfl, go_ok hf, hr]
          simp [hf]
        rw [htext]
        simp
      · simp only [if_neg d2] at hr ⊢
        have d3 : a.d = 3 := by omega
        simp only [if_pos d3] at hr ⊢
        have hb : r.byte = (a.b, ⟨r.s, r.pos + 1, 0⟩) := by
          unfold Rd.byte
          rw [hr]
          simp only [List.cons_append, List.nil_append, reduceCtorEq, if_false]
          rw [pass_true hf rfl, if_pos rfl, go_ok hf, hf, List.headD_cons, ofNat_toNat h5]
        rw [hb]
        rfl

/-- A list of which each item can be written. -/
def Good (l : List It) : Prop := ∀ a ∈ l, a.Ok ∧ a.d < 4 ∧ a.m = a.s.size

theorem rd_step {L : List It} (hg : Good L) {k : Nat} (hk : k < L.length) :
    rdI ⟨⟨(encs L).toArray⟩, (encs (L.take k)).length, 0⟩ L[k] = (bareI L[k], ⟨⟨(encs L).toArray⟩, (encs (L.take (k + 1))).length, 0⟩) := by
  obtain ⟨h1, h2, h3⟩ := hg _ (List.getElem_mem hk)
  have e : encs L = encs (L.take k) ++ (encI L[k] ++ encs (L.drop (k + 1))) := by
    have h := encs_append (L.take k) (L.drop k)
    rw [List.take_append_drop, List.drop_eq_getElem_cons hk, encs_cons] at h
    exact h
  have hr : Rd.rest ⟨⟨(encs L).toArray⟩, (encs (L.take k)).length, 0⟩ = encI L[k] ++ encs (L.drop (k + 1)) := by
    show (encs L).drop (encs (L.take k)).length = _
    rw [e, List.drop_left]
  rw [rd_back rfl hr h1 h2 h3, encs_take hk, List.length_append]

theorem rd_ok {L : List It} (hlim : (encs L).length ≤ 281474976710656) (k : Nat) : Rd.Ok ⟨⟨(encs L).toArray⟩, (encs (L.take k)).length, 0⟩ := by
  have h := encs_append (L.take k) (L.drop k)
  rw [List.take_append_drop] at h
  have h2 := congrArg List.length h
  rw [List.length_append] at h2
  refine ⟨?_, Nat.zero_le _, ?_⟩
  · show (encs (L.take k)).length ≤ (encs L).toArray.size
    simp; omega
  · show (encs L).toArray.size ≤ _
    simpa using hlim
theorem rd_left {L M : List It} : (Rd.rest ⟨⟨(encs (L ++ M)).toArray⟩, (encs L).length, 0⟩).length = (encs M).length := by
  show ((encs (L ++ M)).drop (encs L).length).length = _
  rw [encs_append, List.drop_left]
end Go.Proofs.YtibpgmcpcelmpaaGreatDoor

/-
  What the statements' helpers do: Great, bytes.
-/
namespace Go.Proofs.YtibpgmcpcelmpaaGreatDoor
open Go.RowKit Pk

/-- Items lie where a slice says. -/
def listAt (w : World) (A : Option Addr) (l : List It) : Prop := l = [] ∨ ∃ b off, A = some ⟨b, off, none⟩ ∧ b < w.heap.size ∧ itemsAt w b off l

end Go.Proofs.YtibpgmcpcelmpaaGreatDoor

/-
  What the document's own answers are: a number's bytes, an integer's number, a text's bytes.
-/
namespace Go.Proofs.YtibpgmcpcelmpaaGreatDoor
open Go.RowKit Pk

/-- One byte that lies in a block of its own, as a text. -/
theorem conv_one (W : World) (x : UInt8) (v : Int) (hv : v = x.toNat) :
    (convert 85 9 (.slice (some ⟨W.heap.size, 0, none⟩) 1 1)).run Tryz.prog (W.alloc (.cells #[.int .u8 v] 5)) = .ok (.string ⟨#[x]⟩) (W.alloc (.cells #[.int .u8 v] 5)) := by
  subst hv
  have hn := heap_alloc_new W (.cells #[.int .u8 (x.toNat : Int)] 5)
  have h := run_convert_bytes_back (P := Tryz.prog) (W.alloc (.cells #[.int .u8 (x.toNat : Int)] 5)) 85 9 5 ⟨W.heap.size, 0, none⟩ 1 [x] Tryz.underlying85 Tryz.underlying5 Tryz.underlying9 (fun j hj => by
    have hj0 : j = 0 := by simpa using hj
    subst hj0
    exact cells_of hn 0 _ rfl)
  exact h

theorem ba_cat (a b : List UInt8) : (ByteArray.mk a.toArray ++ ByteArray.mk b.toArray) = ByteArray.mk (a ++ b).toArray := by
  apply ByteArray.ext
  rw [ByteArray.data_append]
  simp
theorem ba_cat_s (a : List UInt8) (s : ByteArray) : (ByteArray.mk a.toArray ++ s) = ByteArray.mk (a ++ s.data.toList).toArray := by
  apply ByteArray.ext
  rw [ByteArray.data_append]
  apply Array.ext'
  simp

set_option maxHeartbeats 1000000 in
theorem rNum_any (n : Nat) (hn : n < 2 ^ 64) (w : World) :
    Calls Tryz.prog 67 #[.int .u64 n] w fun e w' => e = .returned (.string ⟨(enc n).toArray⟩) ∧ Below w.heap.size w w' := by
  go_enter Tryz.func67, Tryz.ntmps67
  go_wp2
  go_loopw [0, 3] (fun x s wr => ∃ (k : Nat) (done : List UInt8), k ≤ n ∧ x = .int .u64 k ∧ s = .string ⟨done.toArray⟩ ∧ Below w.heap.size w wr ∧ Hid (done ++ enc k = enc n)) (fun x _ _ => (intOf x).toNat)
  case atStart => exact ⟨n, [], Nat.le_refl _, rfl, rfl, Below.refl _ _, rfl⟩
  case round =>
    obtain ⟨k, done, hk, rfl, rfl, hbe, hd⟩ := hrel
    have hk64 : (k : Int) ≤ 18446744073709551615 := by omega
    have hl : done.length ≤ 10 := by
      have h1 := congrArg List.length hd.out
      have h2 := enc_len hn
      rw [List.length_append] at h1
      omega
    have hcat : ¬ 9223372036854775807 < done.length + 1 := by omega
    by_cases hgt : 127 < k
    · have hgt' : (127 : Int) < k := by omega
      have hd2 := hd.out
      rw [enc_big hgt] at hd2
      obtain ⟨x, hx⟩ : ∃ x, x = UInt8.ofNat (k % 128 + 128) := ⟨_, rfl⟩
      rw [← hx] at hd2
      have HD := Lib.hid hd2
      have HX := Lib.hid hx
      clear hd hd2 hx
      have hcv := conv_one wr x (128 + (k : Int) % 128) (by rw [HX.out, ofNat_toNat (by omega)]; omega)
      go_wp2_with fail
      go_roundw
      case rel => exact ⟨k / 128, done ++ [x], by omega, by go_num, by rw [← ba_cat], hbe.alloc hbe.size _, by rw [List.append_assoc]; exact HD.out⟩
      case measure => simp [intOf]; omega
    · have hgt' : ¬ (127 : Int) < k := by omega
      have hd2 := hd.out
      rw [enc_small hgt] at hd2
      have HD := Lib.hid hd2
      clear hd hd2
      have hcv := conv_one wr (UInt8.ofNat k) k (by rw [ofNat_toNat (by omega)])
      go_wp2_with fail
      go_ret
      rw [← HD.out, ← ba_cat]
      exact ⟨rfl, hbe.alloc hbe.size _⟩

set_option maxHeartbeats 1000000 in
theorem rText_any (s : ByteArray) (hs : s.size ≤ 140737488351232) (w : World) :
    Calls Tryz.prog 37 #[.string s] w fun e w' => e = .returned (.string ⟨(enc s.size ++ s.data.toList).toArray⟩) ∧ Below w.heap.size w w' := by
  go_enter Tryz.func37, Tryz.ntmps37
  go_wp2_with fail
  refine (rNum_any s.size (by omega) _).mono ?_
  rintro e w1 ⟨rfl, hb⟩
  have hcat : ¬ 9223372036854775807 < (enc s.size).length + s.size := by have := enc_len (n := s.size) (by omega); omega
  go_wp2_with fail
  go_ret
  rw [← ba_cat_s]
  exact ⟨rfl, hb⟩
end Go.Proofs.YtibpgmcpcelmpaaGreatDoor

/-
  PackSpells answers true for every list of items, and turns nothing of what was there.
-/
namespace Go.Proofs.YtibpgmcpcelmpaaGreatDoor
open Go.RowKit Pk

theorem itemAt.single {w : World} {b o : Nat} {a : It} (h : itemAt w b o a) : itemsAt w b o [a] := by
  intro j hj
  have hj0 : j = 0 := by simpa using hj
  subst hj0
  simpa using h

end Go.Proofs.YtibpgmcpcelmpaaGreatDoor

/-
  An argument that is a slice of items, opened: where its items lie, and that each field is in its range.
-/
namespace Go.Proofs.YtibpgmcpcelmpaaGreatDoor
open Go.ChangeMaps (open_string shut_string)
open Go.ChangeShapes Go.WideShapes Go.ChangeAt Go.RowKit Go.Deep Pk

/-- Each field in its range, the text of any length. -/
structure Rng (a : It) : Prop where
  d : a.d < 256
  n : a.n < 2 ^ 64
  i : -9223372036854775808 ≤ a.i ∧ a.i ≤ 9223372036854775807
  s : a.s.size ≤ 9223372036854775807
  b : a.b < 256
  m : -9223372036854775808 ≤ a.m ∧ a.m ≤ 9223372036854775807

theorem mem_total {l : List It} {a : It} (h : a ∈ l) : a.s.size ≤ total l := by
  induction l with
  | nil => simp at h
  | cons b l ih =>
    rw [total_cons]
    rcases List.mem_cons.1 h with rfl | h
    · omega
    · have := ih h; omega
theorem ok_of {l : List It} (h : ∀ a ∈ l, Rng a) (ht : total l ≤ 30000) : ∀ a ∈ l, a.Ok := fun a ha =>
  ⟨(h a ha).d, (h a ha).n, (h a ha).i, by have := mem_total ha; omega, (h a ha).b, (h a ha).m⟩

theorem list_of {P : Nat → It → Prop} (n : Nat) (h : ∀ i, i < n → ∃ a, P i a) : ∃ l : List It, l.length = n ∧ ∀ i (hi : i < l.length), P i l[i] := by
  induction n with
  | zero => exact ⟨[], rfl, fun i hi => by simp at hi⟩
  | succ n ih =>
    obtain ⟨l, hl, hp⟩ := ih fun i hi => h i (by omega)
    obtain ⟨a, ha⟩ := h n (by omega)
    refine ⟨l ++ [a], by simp [hl], fun i hi => ?_⟩
    by_cases hin : i < l.length
    · rw [List.getElem_append_left hin]; exact hp i hin
    · have hie : i = l.length := by simp at hi; omega
      subst hie
      rw [List.getElem_append_right (by omega)]
      simp [hl, ha]

theorem field_at {fs : Array Field} (hfs : (fs.map fun f => f.type) = #[5, 30, 2, 9, 5, 3]) (j : Nat) (t : TypeId) (h : #[5, 30, 2, 9, 5, 3][j]? = some t) :
    ∃ f, fs[j]? = some f ∧ f.type = t := by
  rw [← hfs, Array.getElem?_map] at h
  cases hf : fs[j]? with
  | none => rw [hf] at h; simp at h
  | some f => rw [hf] at h; exact ⟨f, rfl, by simpa using h⟩

end Go.Proofs.YtibpgmcpcelmpaaGreatDoor

/-
  PackFollows answers true for every two lists of items, and turns nothing of what was there.
-/
namespace Go.Proofs.YtibpgmcpcelmpaaGreatDoor
open Go.RowKit Pk

theorem itemAt.stp {w w' : World} {b o br : Nat} {a : It} {r : Rd} (h : itemAt w b o a) (k : Stp w w' br r) (hne : b ≠ br) : itemAt w' b o a := by
  have e : ∀ x v, w.cell? ⟨b, x, none⟩ = some v → w'.cell? ⟨b, x, none⟩ = some v := fun x v hx => k.grown.cell (a := ⟨b, x, none⟩) hx (fun e => hne (Option.some.inj e))
  obtain ⟨c0, c1, c2, c3, c4, c5⟩ := h
  exact ⟨e _ _ c0, e _ _ c1, e _ _ c2, e _ _ c3, e _ _ c4, e _ _ c5⟩
theorem itemAt.low {w w' : World} {b o : Nat} {a : It} (h : itemAt w b o a) (k : Below w.heap.size w w') : itemAt w' b o a :=
  h.below k (World.block_lt_of_cell? w _ h.1)

/-- Items that lie in memory, of a list that was made behind block number B. -/
def newAt (w : World) (B : Nat) (A : Option Addr) (l : List It) : Prop := l = [] ∨ ∃ b off, A = some ⟨b, off, none⟩ ∧ B ≤ b ∧ b < w.heap.size ∧ itemsAt w b off l
theorem newAt.list {w : World} {B : Nat} {A : Option Addr} {l : List It} (h : newAt w B A l) : listAt w A l := by
  rcases h with h | ⟨b, off, h1, _, h2, h3⟩
  · exact .inl h
  · exact .inr ⟨b, off, h1, h2, h3⟩
theorem listAt.low {w w' : World} {A : Option Addr} {l : List It} (h : listAt w A l) (k : Below w.heap.size w w') : listAt w' A l := by
  rcases h with h | ⟨b, off, h1, h2, h3⟩
  · exact .inl h
  · exact .inr ⟨b, off, h1, Nat.lt_of_lt_of_le h2 k.size, h3.below k h2⟩
theorem listAt.drewN {w : World} {A : Option Addr} {l : List It} (h : listAt w A l) (n : Nat) : listAt (w.drewN n) A l := h
theorem listAt.lt {w : World} {A : Option Addr} {l : List It} (h : listAt w A l) : l = [] ∨ ∃ b off, A = some ⟨b, off, none⟩ ∧ b < w.heap.size ∧ itemsAt w b off l := h
theorem listAt.from {w w' : World} {A : Option Addr} {l : List It} {B : Nat} (h : listAt w A l) (hB : w.heap.size ≤ B) (k : Below B w w') : listAt w' A l := h.low (k.mono hB)

end Go.Proofs.YtibpgmcpcelmpaaGreatDoor

/-
  An item's bytes, cut off: what is read of them fails where it began.
-/
namespace Go.Proofs.YtibpgmcpcelmpaaGreatDoor
open Go.RowKit Pk

theorem fail_go {r : Rd} (h : r.f ≠ 0) (sz e : Nat) : r.go sz e = r := by unfold Rd.go; rw [if_neg h]
theorem fail_num {r : Rd} (h : r.f ≠ 0) : r.num = (0, r) := by unfold Rd.num; rw [pass_false (.inl h), fail_go h]; rfl
theorem fail_most {r : Rd} (h : r.f ≠ 0) (m : Int) : r.most m = (0, r) := by unfold Rd.most; rw [pass_false (.inl h), fail_go h]; rfl
theorem fail_text {r : Rd} (h : r.f ≠ 0) (m : Int) : r.text m = ([], r) := by unfold Rd.text; rw [pass_false (.inl h), fail_go h]; rfl
theorem fail_byte {r : Rd} (h : r.f ≠ 0) : r.byte = (0, r) := by unfold Rd.byte; rw [pass_false (.inl h), fail_go h]; rfl

theorem dec_cut0 {n : Nat} (hn : n < 2 ^ 64) {j : Nat} (hj : j < (enc n).length) : dec 0 0 ((enc n).take j) = (0, 0, 7) := dec_cut n 0 0 j (by simpa using hn) (by omega) hj
theorem num_cut {r : Rd} {n j : Nat} (hf : r.f = 0) (hn : n < 2 ^ 64) (hr : r.rest = (enc n).take j) (hj : j < (enc n).length) : r.num = (0, ⟨r.s, r.pos, 7⟩) := by
  unfold Rd.num
  rw [hr, dec_cut0 hn hj, pass_false (.inr (by decide))]
  unfold Rd.go
  rw [if_pos hf, if_neg (by decide)]
  rfl

theorem rd_cut {r : Rd} {a : It} {j : Nat} (hf : r.f = 0) (hr : r.rest = (encI a).take j) (hj : j < (encI a).length) (ha : a.Ok) (hd : a.d < 4) (hm : a.m = a.s.size) :
    rdI r a = (⟨0, 0, 0, ⟨#[]⟩, 0, 0⟩, ⟨r.s, r.pos, 7⟩) := by
  obtain ⟨h1, h2, h3, h4, h5, h6⟩ := ha
  unfold encI at hr hj
  unfold rdI
  by_cases d0 : a.d = 0
  · simp only [if_pos d0] at hr hj ⊢
    rw [num_cut hf h2 hr hj]
  · simp only [if_neg d0] at hr hj ⊢
    by_cases d1 : a.d = 1
    · simp only [if_pos d1] at hr hj ⊢
      rw [num_cut hf (zig_lt h3) hr hj]
      have e : zag 0 = 0 := by simp [zag]
      simp only [e]
    · simp only [if_neg d1] at hr hj ⊢
      by_cases d2 : a.d = 2
      · simp only [if_pos d2] at hr hj ⊢
        have ht : terr r.rest a.m = 7 := by
          by_cases hj2 : j < (enc a.s.size).length
          · have hr2 : r.rest = (enc a.s.size).take j := by rw [hr, List.take_append_of_le_length (by omega)]
            have hc : cnt r.rest a.m = (0, 0, 7) := by
              unfold cnt
              rw [hr2, dec_cut0 (by omega) hj2]
              exact if_neg (by simp)
            unfold terr
            rw [hc]
            exact if_neg (by simp)
          · have hr2 : r.rest = enc a.s.size ++ a.s.data.toList.take (j - (enc a.s.size).length) := by
              rw [hr, List.take_append, List.take_of_length_le (by omega)]
            have hc : cnt r.rest a.m = (a.s.size, (enc a.s.size).length, 0) := by rw [hr2]; exact cnt_back (by omega) _ (by omega)
            have hl : r.rest.length ≤ j := by rw [hr, List.length_take]; omega
            rw [List.length_append] at hj
            simp only [Array.length_toList] at hj
            have hj3 : j < (enc a.s.size).length + a.s.size := hj
            unfold terr
            rw [hc]
            exact if_pos ⟨rfl, by simp only; omega⟩
        have htext : r.text a.m = ([], ⟨r.s, r.pos, 7⟩) := by
          unfold Rd.text
          rw [ht, pass_false (.inr (by decide))]
          unfold Rd.go
          rw [if_pos hf, if_neg (by decide)]
          rfl
        rw [htext]
      · simp only [if_neg d2] at hr hj ⊢
        have d3 : a.d = 3 := by omega
        simp only [if_pos d3] at hr hj ⊢
        have hj0 : j = 0 := by simpa using hj
        have hb : r.byte = (0, ⟨r.s, r.pos, 7⟩) := by
          unfold Rd.byte
          rw [hr, hj0, List.take_zero, if_pos rfl, pass_false (.inr (by decide))]
          unfold Rd.go
          rw [if_pos hf, if_neg (by decide)]
          rfl
        rw [hb]

/-- A round over a text that is cut off behind kk bytes: the item is whole. -/
theorem cut_whole {L : List It} (hg : Good L) {k kk : Nat} (hk : k < L.length) (hw : (encs (L.take k)).length + (encI L[k]).length ≤ kk) :
    rdI ⟨⟨((encs L).take kk).toArray⟩, (encs (L.take k)).length, 0⟩ L[k] = (bareI L[k], ⟨⟨((encs L).take kk).toArray⟩, (encs (L.take (k + 1))).length, 0⟩) := by
  obtain ⟨h1, h2, h3⟩ := hg _ (List.getElem_mem hk)
  have e : encs L = encs (L.take k) ++ (encI L[k] ++ encs (L.drop (k + 1))) := by
    have h := encs_append (L.take k) (L.drop k)
    rw [List.take_append_drop, List.drop_eq_getElem_cons hk, encs_cons] at h
    exact h
  have hr : Rd.rest ⟨⟨((encs L).take kk).toArray⟩, (encs (L.take k)).length, 0⟩ = encI L[k] ++ (encs (L.drop (k + 1))).take (kk - (encs (L.take k)).length - (encI L[k]).length) := by
    show ((encs L).take kk).drop (encs (L.take k)).length = _
    rw [List.drop_take, e, List.drop_left, List.take_append, List.take_of_length_le (by omega)]
  rw [rd_back rfl hr h1 h2 h3, encs_take hk, List.length_append]
/-- The item is not whole. -/
theorem cut_short {L : List It} (hg : Good L) {k kk : Nat} (hk : k < L.length) (hb : (encs (L.take k)).length ≤ kk) (hw : ¬ (encs (L.take k)).length + (encI L[k]).length ≤ kk) :
    rdI ⟨⟨((encs L).take kk).toArray⟩, (encs (L.take k)).length, 0⟩ L[k] = (⟨0, 0, 0, ⟨#[]⟩, 0, 0⟩, ⟨⟨((encs L).take kk).toArray⟩, (encs (L.take k)).length, 7⟩) := by
  obtain ⟨h1, h2, h3⟩ := hg _ (List.getElem_mem hk)
  have e : encs L = encs (L.take k) ++ (encI L[k] ++ encs (L.drop (k + 1))) := by
    have h := encs_append (L.take k) (L.drop k)
    rw [List.take_append_drop, List.drop_eq_getElem_cons hk, encs_cons] at h
    exact h
  have hr : Rd.rest ⟨⟨((encs L).take kk).toArray⟩, (encs (L.take k)).length, 0⟩ = (encI L[k]).take (kk - (encs (L.take k)).length) := by
    show ((encs L).take kk).drop (encs (L.take k)).length = _
    rw [List.drop_take, e, List.drop_left, List.take_append_of_le_length (by omega)]
  exact rd_cut rfl hr (by omega) h1 h2 h3
theorem cut_left {l : List UInt8} {kk p f : Nat} (hk : kk ≤ l.length) : (Rd.rest ⟨⟨(l.take kk).toArray⟩, p, f⟩).length = kk - p := by
  show ((l.take kk).drop p).length = _
  rw [List.length_drop, List.length_take, Nat.min_eq_left hk]
end Go.Proofs.YtibpgmcpcelmpaaGreatDoor

/-
  How the document's own reader finds a number (the first byte below 128, and whether the bytes up to it are some number's) and how 'dec' does: they tell the same.
-/
namespace Go.Proofs.YtibpgmcpcelmpaaGreatDoor.Pk

/-- The number that bytes stand for, low ones first, modulo 2^64. -/
def valF : List UInt8 → Nat
  | [] => 0
  | b :: r => (128 * valF r + b.toNat % 128) % 2 ^ 64

theorem valF_lt (l : List UInt8) : valF l < 2 ^ 64 := by cases l <;> simp [valF]; omega

theorem valF_enc (n : Nat) : n < 2 ^ 64 → valF (enc n) = n := by
  induction n using Nat.strongRecOn with
  | ind n ih =>
    intro h
    by_cases hn : 127 < n
    · rw [enc_big hn, valF, ih (n / 128) (by omega) (by omega), ofNat_toNat (by omega)]
      omega
    · rw [enc_small hn, valF, valF, ofNat_toNat (by omega)]
      omega

/-- All but the last byte of a number are 128 or more, the last is less. -/
theorem enc_get (n : Nat) : n < 2 ^ 64 → ∀ (j : Nat) (hj : j < (enc n).length), (j + 1 < (enc n).length → 128 ≤ (enc n)[j].toNat) ∧ (j + 1 = (enc n).length → (enc n)[j].toNat < 128) := by
  induction n using Nat.strongRecOn with
  | ind n ih =>
    intro h j hj
    by_cases hn : 127 < n
    · have e := enc_big hn
      have hp := List.length_pos_iff.2 (enc_ne (n / 128))
      have hl : (enc n).length = (enc (n / 128)).length + 1 := by rw [e]; rfl
      cases j with
      | zero =>
        have hg : (enc n)[0] = UInt8.ofNat (n % 128 + 128) := by simp only [e, List.getElem_cons_zero]
        rw [hg, ofNat_toNat (by omega)]
        omega
      | succ j =>
        have hg : (enc n)[j + 1] = (enc (n / 128))[j]'(by omega) := by simp only [e, List.getElem_cons_succ]
        rw [hg]
        have := ih (n / 128) (by omega) (by omega) j (by omega)
        omega
    · have e := enc_small hn
      have hl : (enc n).length = 1 := by rw [e]; rfl
      have hj0 : j = 0 := by omega
      subst hj0
      have hg : (enc n)[0] = UInt8.ofNat n := by simp only [e, List.getElem_cons_zero]
      rw [hg, ofNat_toNat (by omega)]
      omega

theorem dec_big {b : UInt8} (h : 128 ≤ b.toNat) (x k : Nat) (r : List UInt8) (hk : k < 10) : dec x k (b :: r) = dec (x + b.toNat % 128 * 2 ^ (7 * k)) (k + 1) r := by
  rw [dec, if_pos hk, if_pos (by omega)]

/-- Great bytes alone, and too few of them. -/
theorem dec_few (l : List UInt8) : ∀ x k, (∀ b ∈ l, 128 ≤ b.toNat) → k + l.length < 10 → dec x k l = (0, 0, 7) := by
  induction l with
  | nil => intro x k _ hk; simp at hk; simp [dec, hk]
  | cons b r ih =>
    intro x k hb hk
    rw [List.length_cons] at hk
    rw [dec_big (hb b (by simp)) x k r (by omega)]
    exact ih _ _ (fun c hc => hb c (by simp [hc])) (by omega)

/-- Ten great bytes. -/
theorem dec_many (l : List UInt8) : ∀ x k, k ≤ 10 → 10 ≤ k + l.length → (∀ j (hj : j < l.length), k + j < 10 → 128 ≤ l[j].toNat) → dec x k l = (0, 0, 8) := by
  induction l with
  | nil =>
    intro x k h1 h2 _
    have : k = 10 := by simp at h2; omega
    subst this
    exact dec_ten _ _
  | cons b r ih =>
    intro x k h1 h2 hb
    by_cases hk : k = 10
    · subst hk; exact dec_ten _ _
    · rw [dec_big (by have := hb 0 (by simp) (by omega); simpa using this) x k r (by omega)]
      refine ih _ _ (by omega) (by rw [List.length_cons] at h2; omega) fun j hj hkj => ?_
      have := hb (j + 1) (by simp; omega) (by omega)
      simpa using this

/-- A byte below 128 among the first: not too short. -/
theorem dec_not7 (l : List UInt8) : ∀ x k n, n < l.length → k + n < 10 → (∀ j (hj : j < l.length), j < n → 128 ≤ l[j].toNat) → (∀ hn : n < l.length, l[n].toNat < 128) → (dec x k l).2.2 ≠ 7 := by
  induction l with
  | nil => intro x k n hn; simp at hn
  | cons b r ih =>
    intro x k n hn hk hb hl
    cases n with
    | zero =>
      have h0 : b.toNat < 128 := hl (by simp)
      rw [dec, if_pos (by omega), if_neg (by omega)]
      split <;> simp
    | succ n =>
      rw [dec_big (by have := hb 0 (by simp) (by omega); simpa using this) x k r (by omega)]
      rw [List.length_cons] at hn
      refine ih _ _ n (by omega) (by omega) (fun j hj hjn => ?_) (fun h => ?_)
      · have := hb (j + 1) (by simp; omega) (by omega)
        simpa using this
      · have := hl (by simp; omega)
        simpa using this

/-- The first byte below 128 is the n-th behind the first: the bytes up to it decide. -/
theorem dec_first {l : List UInt8} {n : Nat} (hn : n < l.length) (h10 : n < 10) (hb : ∀ j (hj : j < l.length), j < n → 128 ≤ l[j].toNat) (hl : ∀ h : n < l.length, l[n].toNat < 128) :
    dec 0 0 l = if enc (valF (l.take (n + 1))) = l.take (n + 1) then (valF (l.take (n + 1)), n + 1, 0) else (0, 0, 8) := by
  by_cases he : enc (valF (l.take (n + 1))) = l.take (n + 1)
  · rw [if_pos he]
    have h := dec_enc (valF (l.take (n + 1))) 0 0 (l.drop (n + 1)) (by have := valF_lt (l.take (n + 1)); simpa using this) (by omega) (by omega)
    rw [he, List.take_append_drop] at h
    rw [h, List.length_take]
    simp; omega
  · rw [if_neg he]
    have h7 := dec_not7 l 0 0 n hn (by omega) hb hl
    rcases dec_err l 0 0 with h | h | h
    · exfalso
      obtain ⟨v, tail, _, _, hlt, hv, _⟩ := dec_inv l 0 0 (dec 0 0 l).1 (dec 0 0 l).2.1 (Prod.ext rfl (Prod.ext rfl h))
      have hv64 : v < 2 ^ 64 := by simpa using hv
      have hpos := List.length_pos_iff.2 (enc_ne v)
      have hget : ∀ j (hj : j < (enc v).length) (hj2 : j < l.length), l[j] = (enc v)[j] := by
        intro j hj hj2
        simp only [hlt]
        rw [List.getElem_append_left hj]
      have hll : (enc v).length ≤ l.length := by have := congrArg List.length hlt; rw [List.length_append] at this; omega
      have hlen : (enc v).length = n + 1 := by
        have hlast := (enc_get v hv64 ((enc v).length - 1) (by omega)).2 (by omega)
        rw [← hget _ (by omega) (by omega)] at hlast
        rcases Nat.lt_trichotomy ((enc v).length - 1) n with h1 | h1 | h1
        · have := hb _ (by omega) h1; omega
        · omega
        · have h2 := (enc_get v hv64 n (by omega)).1 (by omega)
          rw [← hget n (by omega) hn] at h2
          have := hl hn
          omega
      have ht : l.take (n + 1) = enc v := by rw [hlt, ← hlen, List.take_left]
      rw [ht, valF_enc v hv64] at he
      exact he rfl
    · rw [h] at h7; exact absurd rfl h7
    · exact h
end Go.Proofs.YtibpgmcpcelmpaaGreatDoor.Pk

/-
  What the document's own reader does, said of the plain reader: Value, next, Zag, Num.
-/
namespace Go.Proofs.YtibpgmcpcelmpaaGreatDoor
open Go.RowKit Pk

theorem valF_cons (s : ByteArray) (j : Nat) (h : j < s.size) : valF (s.data.toList.drop j) = (128 * valF (s.data.toList.drop (j + 1)) + s[j].toNat % 128) % 2 ^ 64 := by
  rw [drop_at h]
  rfl

set_option maxHeartbeats 1000000 in
theorem value_any (s : ByteArray) (hs : s.size ≤ 281474976710656) (w : World) :
    Calls Tryz.prog 107 #[.string s] w fun e w' => e = .returned (.tuple #[.int .u64 (valF s.data.toList), .bool (enc (valF s.data.toList) == s.toList)]) ∧ Below w.heap.size w w' := by
  go_enter Tryz.func107, Tryz.ntmps107
  go_wp2
  go_loop [4, 5] (fun n i => ∃ (k : Nat) (z : Int), k ≤ s.size ∧ Hid (z = k - 1) ∧ i = .int .i64 z ∧ n = .int .u64 (valF (s.data.toList.drop k))) (fun _ i => (intOf i + 1).toNat)
  case atStart => exact ⟨s.size, (s.size : Int) - 1, Nat.le_refl _, rfl, rfl, by rw [List.drop_of_length_le (by simp)]; rfl⟩
  case round =>
    obtain ⟨k, z, hk, hz, rfl, rfl⟩ := hrel
    cases k with
    | zero =>
      have hz1 := hz.out
      obtain rfl : z = -1 := by simpa using hz1
      clear hz hz1
      rw [List.drop_zero] at *
      have hv := valF_lt s.data.toList
      go_wp2_with fail
      refine (rNum_any (valF s.data.toList) hv _).mono ?_
      rintro e w1 ⟨rfl, hb⟩
      go_wp2
      go_ret2
      exact ⟨rfl, hb⟩
    | succ j =>
      have hz1 := hz.out
      obtain rfl : z = (j : Int) := by omega
      clear hz hz1
      have hlt : j < s.size := by omega
      have hvc := Lib.hid (valF_cons s j hlt)
      have hv := valF_lt (s.data.toList.drop (j + 1))
      have hb := s[j].toNat_lt
      generalize valF (s.data.toList.drop (j + 1)) = v at *
      go_wp2
      go_round
      case rel =>
        refine ⟨j, (j : Int) - 1, by omega, rfl, rfl, ?_⟩
        rw [hvc.out]
        congr 1
        simp only [IntKind.wrap_u64]
        omega
      case measure => simp [intOf]

/-- The document's reader lies in block b. -/
def rinAt (w : World) (b : Nat) (r : Rd) : Prop := w.heap[b]? = some (.cells #[.string r.s, .int .i64 r.pos, .int .i64 r.f] 121 (0, 0))

theorem rinAt.low {w w' : World} {b : Nat} {r : Rd} (h : rinAt w b r) (k : Below w.heap.size w w') : rinAt w' b r := (k.block b (Array.getElem?_eq_some_iff.1 h).1).trans h
theorem rin_cells {w w' : World} {b : Nat} {r : Rd} (h : rinAt w b r) (k : Below w.heap.size w w') : w'.cell? ⟨b, 0, none⟩ = some (.string r.s) ∧ w'.cell? ⟨b, 1, none⟩ = some (.int .i64 r.pos) :=
  ⟨cells_of (h.low k) 0 _ rfl, cells_of (h.low k) 1 _ rfl⟩

theorem rest_get (r : Rd) (j : Nat) (h : r.pos + j < r.s.size) : ∃ hj : j < r.rest.length, r.rest[j] = r.s[r.pos + j] := by
  have hl := r.rest_length
  refine ⟨by omega, ?_⟩
  unfold Rd.rest
  rw [List.getElem_drop]
  rfl

set_option maxHeartbeats 4000000 in
set_option maxRecDepth 100000 in
theorem next_in {w : World} {b : Nat} {r : Rd} (hin : rinAt w b r) (hr : r.Ok) :
    Calls Tryz.prog 82 #[.pointer (some ⟨b, 0, none⟩)] w fun e w' => e = .returned (.tuple #[.int .u64 (dec 0 0 r.rest).1, .int .i64 (dec 0 0 r.rest).2.1, .int .i64 (dec 0 0 r.rest).2.2]) ∧ Below w.heap.size w w' := by
  have c0 := cells_of hin 0 _ rfl
  have c1 := cells_of hin 1 _ rfl
  have hl := r.rest_length
  have hp := hr.pos
  have hlim := hr.lim
  have HR := Lib.hid (rest_get r)
  have HL := Lib.hid hl
  have HIN := Lib.hid hin
  clear hl hin hr
  go_enter Tryz.func82, Tryz.ntmps82
  go_wp2
  go_loopw [5] (fun n wr => ∃ k : Nat, 1 ≤ k ∧ k ≤ 11 ∧ n = .int .i64 k ∧ k - 1 ≤ r.rest.length ∧ Hid (∀ j (hj : j < r.rest.length), j < k - 1 → 128 ≤ r.rest[j].toNat) ∧ ∃ m, wr = w.drewN m) (fun n _ => (11 - intOf n).toNat)
  case atStart => exact ⟨1, by omega, by omega, rfl, by omega, fun j hj hj2 => by omega, 0, rfl⟩
  case round =>
    obtain ⟨k, hk1, hk2, rfl, hkl, hall, m, rfl⟩ := hrel
    by_cases h11 : k = 11
    · subst h11
      have hd := Lib.hid (dec_many r.rest 0 0 (by omega) (by omega) (fun j hj h => hall.out j hj (by omega)))
      go_wp2_with fail
      go_ret3
      rw [hd.out]
      exact ⟨rfl, below_drewN (Below.refl _ w) m⟩
    · have hk10 : (k : Int) ≤ 10 := by omega
      by_cases hlen : r.s.size < r.pos + k
      · have hgt : (r.s.size : Int) < r.pos + k := by omega
        have hd := Lib.hid (dec_few r.rest 0 0 (fun c hc => by
          obtain ⟨j, hj, rfl⟩ := List.getElem_of_mem hc
          exact hall.out j hj (by have := HL.out; omega)) (by have := HL.out; omega))
        go_wp2_with fail
        go_quiet (fail)
        go_wp2_with fail
        go_ret3
        rw [hd.out]
        exact ⟨rfl, below_drewN (below_drewN (Below.refl _ w) m) _⟩
      · have hgt : ¬ ((r.s.size : Int) < r.pos + k) := by omega
        obtain ⟨hj, hbyte⟩ := HR.out (k - 1) (by omega)
        obtain ⟨q, hqd⟩ : ∃ q, q = r.pos + (k - 1) := ⟨_, rfl⟩
        have hix : q < r.s.size := by omega
        have hq : (r.pos : Int) + k - 1 = (q : Int) := by omega
        have hbyte2 : r.rest[k - 1] = r.s[q] := by rw [hbyte]; simp only [hqd]
        have HB := Lib.hid hbyte2
        have HQ := Lib.hid hqd
        have HQI := Lib.hid hq
        clear hbyte hbyte2 hqd hq
        by_cases hsm : r.s[q].toNat < 128
        · have hsm1 : (r.s[q].toNat : Int) < 128 := by omega
          have hdf := dec_first (l := r.rest) (n := k - 1) hj (by omega) (fun j hj2 hlt => hall.out j hj2 hlt) (fun h => by have := HB.out; rw [this]; exact hsm)
          rw [show k - 1 + 1 = k from by omega] at hdf
          have hex : r.s.extract r.pos (r.pos + k) = ⟨(r.rest.take k).toArray⟩ := by
            apply ByteArray.ext
            apply Array.ext'
            rw [Lib.extract_data, Nat.add_sub_cancel_left]
            rfl
          have g1 : (0 : Int) ≤ r.pos := by omega
          have g2 : (r.pos : Int) ≤ r.pos + k := by omega
          have g3 : (r.pos : Int) + k ≤ r.s.size := by omega
          have hsl := fun W => @run_slice_string Tryz.prog W 9 r.s .i64 .i64 r.pos (r.pos + k) Tryz.underlying9 g1 g2 g3
          rw [Int.toNat_natCast, show ((r.pos : Int) + k).toNat = r.pos + k from by omega, hex] at hsl
          have HV := Lib.hid (fun W => value_any ⟨(r.rest.take k).toArray⟩ (by show (r.rest.take k).toArray.size ≤ _; simp; omega) W)
          have HDF := Lib.hid hdf
          have HS := Lib.hid hsm1
          clear hex hdf hsm hsm1
          go_wp2_with fail
          go_quiet (fail)
          go_wp2_with fail
          have hq := HQI.out
          go_quiet (fail)
          clear hq
          have hsm1 := HS.out
          go_wp2_with fail
          clear hsm1
          have hwr : IntKind.i64.wrap ((r.pos : Int) + k) = (r.pos : Int) + k := IntWalk.i64_in _ (by omega)
          go_region_held3 (fun w' => w'.cell? ⟨b, 0, none⟩ = some (.string r.s) ∧ w'.cell? ⟨b, 1, none⟩ = some (.int .i64 r.pos))
            (first | exact ⟨c0, c1⟩ | exact HC.out | go_keep)
            ((first | (go_at_call 107; refine (HV.out _).mono ?_; rintro e w16 ⟨rfl, hs16⟩; have HC := Lib.hid (rin_cells (by exact HIN.out) hs16); have HS16 := Lib.hid hs16; clear hs16)))
          clear hwr hsl
          by_cases he : enc (valF (r.rest.take k)) = r.rest.take k
          · have hd := HDF.out
            rw [if_pos he] at hd
            have HD := Lib.hid hd
            have he2 : (enc (valF (r.rest.take k)) == r.rest.take k) = true := by rw [he]; simp
            clear hd he
            go_wp2_with fail
            go_ret3
            rw [HD.out]
            refine ⟨rfl, ?_⟩
            have g0 : ∀ n, Below w.heap.size w (w.drewN n) := below_drewN (Below.refl _ w)
            first
              | exact chainO (g0 _) (Nat.le_refl _) HS16.out
              | exact chainO (below_drewN (below_drewN (g0 m) _) _) (Nat.le_refl _) HS16.out
              | exact chainO (below_drewN (below_drewN (g0 m) _) _).drew (Nat.le_refl _) HS16.out
          · have hd := HDF.out
            rw [if_neg he] at hd
            have HD := Lib.hid hd
            have he2 : (enc (valF (r.rest.take k)) == r.rest.take k) = false := by simpa using he
            clear hd he
            go_wp2_with fail
            go_ret3
            rw [HD.out]
            refine ⟨rfl, ?_⟩
            have g0 : ∀ n, Below w.heap.size w (w.drewN n) := below_drewN (Below.refl _ w)
            first
              | exact chainO (g0 _) (Nat.le_refl _) HS16.out
              | exact chainO (below_drewN (below_drewN (g0 m) _) _) (Nat.le_refl _) HS16.out
              | exact chainO (below_drewN (below_drewN (g0 m) _) _).drew (Nat.le_refl _) HS16.out
        · have hsm1 : ¬ (r.s[q].toNat : Int) < 128 := by omega
          have HS := Lib.hid hsm1
          have HS0 := Lib.hid hsm
          clear hsm hsm1
          go_wp2_with fail
          go_quiet (fail)
          go_wp2_with fail
          have hq := HQI.out
          go_quiet (fail)
          clear hq
          have hsm1 := HS.out
          go_wp2_with fail
          clear hsm1
          go_roundw
          case rel =>
            refine ⟨k + 1, by omega, by omega, by go_num, by omega, ?_, m + _ + _, rfl⟩
            intro j hj2 hlt
            by_cases hjk : j < k - 1
            · exact hall.out j hj2 hjk
            · have hje : j = k - 1 := by omega
              subst hje
              have h1 := HB.out
              have h2 := HS0.out
              rw [h1]
              omega
          case measure => simp [intOf]; omega
end Go.Proofs.YtibpgmcpcelmpaaGreatDoor

/-
  Two readers that are read alike have read the same bytes.
-/
namespace Go.Proofs.YtibpgmcpcelmpaaGreatDoor
open Go.RowKit Pk

theorem zig_zag {n : Nat} : zig (zag n) = n := by unfold zig zag; split <;> split <;> omega

/-- The bytes that were read where v was told. -/
def chunk (x v : It) : List UInt8 :=
  if x.d = 0 then enc v.n else if x.d = 1 then enc (zig v.i) else if x.d = 2 then enc v.s.size ++ v.s.data.toList else if x.d = 3 then [UInt8.ofNat v.b] else enc v.n

theorem go_fine {r : Rd} {sz e : Nat} (h : (r.go sz e).f = 0) : r.f = 0 ∧ e = 0 ∧ r.go sz e = ⟨r.s, r.pos + sz, 0⟩ := by
  unfold Rd.go at h ⊢
  by_cases hf : r.f = 0
  · rw [if_pos hf] at h ⊢
    by_cases he : e = 0
    · rw [if_pos he]; exact ⟨hf, he, by rw [hf]⟩
    · rw [if_neg he] at h; exact absurd h he
  · rw [if_neg hf] at h; exact absurd h hf

theorem rest_go (r : Rd) (k : Nat) : Rd.rest ⟨r.s, r.pos + k, 0⟩ = r.rest.drop k := by
  unfold Rd.rest
  rw [List.drop_drop]

theorem dec_chunk {l : List UInt8} (h : (dec 0 0 l).2.2 = 0) : (dec 0 0 l).2.1 = (enc (dec 0 0 l).1).length ∧ l = enc (dec 0 0 l).1 ++ l.drop (enc (dec 0 0 l).1).length := by
  obtain ⟨n, tail, hv, hs, hl, _⟩ := dec_inv l 0 0 (dec 0 0 l).1 (dec 0 0 l).2.1 (Prod.ext rfl (Prod.ext rfl h))
  have hn : (dec 0 0 l).1 = n := by simpa using hv
  rw [hn]
  refine ⟨by simpa using hs, ?_⟩
  conv => lhs; rw [hl]
  conv => rhs; rw [hl]
  rw [List.drop_left]
theorem cnt_chunk {l : List UInt8} {m : Int} (h : (cnt l m).2.2 = 0) : (cnt l m).2.1 = (enc (cnt l m).1).length ∧ l = enc (cnt l m).1 ++ l.drop (enc (cnt l m).1).length := by
  unfold cnt at h ⊢
  split at h
  · simp at h
  · rename_i hn
    rw [if_neg hn]
    exact dec_chunk h

theorem rd_chunk {r r' : Rd} {x v : It} (h : rdI r x = (v, r')) (hf : r'.f = 0) :
    r.f = 0 ∧ r' = ⟨r.s, r.pos + (chunk x v).length, 0⟩ ∧ r.rest = chunk x v ++ r.rest.drop (chunk x v).length := by
  unfold rdI at h
  unfold chunk
  by_cases d0 : x.d = 0
  · rw [if_pos d0] at h ⊢
    obtain ⟨rfl, rfl⟩ := Prod.mk.inj h
    obtain ⟨h1, h2, h3⟩ := go_fine hf
    obtain ⟨c1, c2⟩ := dec_chunk h2
    have e : r.num.1 = (dec 0 0 r.rest).1 := by unfold Rd.num; simp only; rw [pass_true h1 h2, if_pos rfl]
    have e2 : r.num.2 = ⟨r.s, r.pos + (dec 0 0 r.rest).2.1, 0⟩ := h3
    refine ⟨h1, ?_, ?_⟩
    · rw [e2, c1]; simp only [e]
    · simp only [e]; exact c2
  · rw [if_neg d0] at h ⊢
    by_cases d1 : x.d = 1
    · rw [if_pos d1] at h ⊢
      obtain ⟨rfl, rfl⟩ := Prod.mk.inj h
      obtain ⟨h1, h2, h3⟩ := go_fine hf
      obtain ⟨c1, c2⟩ := dec_chunk h2
      have e : r.num.1 = (dec 0 0 r.rest).1 := by unfold Rd.num; simp only; rw [pass_true h1 h2, if_pos rfl]
      have e2 : r.num.2 = ⟨r.s, r.pos + (dec 0 0 r.rest).2.1, 0⟩ := h3
      refine ⟨h1, ?_, ?_⟩
      · rw [e2, c1]; simp only [e, zig_zag]
      · simp only [e, zig_zag]; exact c2
    · rw [if_neg d1] at h ⊢
      by_cases d2 : x.d = 2
      · rw [if_pos d2] at h ⊢
        obtain ⟨rfl, rfl⟩ := Prod.mk.inj h
        obtain ⟨h1, h2, h3⟩ := go_fine hf
        obtain ⟨r1, r2⟩ := terr_room h2
        obtain ⟨c1, c2⟩ := cnt_chunk r2
        have e : (r.text x.m).1 = (r.rest.drop (cnt r.rest x.m).2.1).take (cnt r.rest x.m).1 := by unfold Rd.text; simp only; rw [pass_true h1 h2, if_pos rfl]
        have e2 : (r.text x.m).2 = ⟨r.s, r.pos + ((cnt r.rest x.m).2.1 + (cnt r.rest x.m).1), 0⟩ := h3
        have el : (r.text x.m).1.length = (cnt r.rest x.m).1 := by rw [e, List.length_take, List.length_drop]; omega
        have es : (ByteArray.mk (r.text x.m).1.toArray).size = (cnt r.rest x.m).1 := by show (r.text x.m).1.toArray.size = _; simpa using el
        refine ⟨h1, ?_, ?_⟩
        · rw [e2, c1]
          simp only [es, List.length_append]
          simp [el]
        · simp only [es]
          rw [c1] at e
          conv => lhs; rw [c2]
          rw [e, List.append_assoc]
          congr 1
          simp only [List.length_append]
          have : (List.take (cnt r.rest x.m).1 (List.drop (enc (cnt r.rest x.m).1).length r.rest)).length = (cnt r.rest x.m).1 := by rw [← e]; exact el
          rw [this, ← List.drop_drop, List.take_append_drop]
      · rw [if_neg d2] at h ⊢
        by_cases d3 : x.d = 3
        · rw [if_pos d3] at h ⊢
          obtain ⟨rfl, rfl⟩ := Prod.mk.inj h
          obtain ⟨h1, h2, h3⟩ := go_fine hf
          have hne : r.rest ≠ [] := fun h => by rw [if_pos h] at h2; omega
          obtain ⟨y, tl, hy⟩ := List.exists_cons_of_ne_nil hne
          have e : r.byte.1 = y.toNat := by unfold Rd.byte; simp only; rw [pass_true h1 h2, if_pos rfl, hy]; rfl
          have e2 : r.byte.2 = ⟨r.s, r.pos + 1, 0⟩ := h3
          refine ⟨h1, by rw [e2]; rfl, ?_⟩
          simp only [e, UInt8.ofNat_toNat]
          rw [hy]
          rfl
        · rw [if_neg d3] at h ⊢
          obtain ⟨rfl, rfl⟩ := Prod.mk.inj h
          obtain ⟨h1, h2, h3⟩ := go_fine hf
          obtain ⟨c1, c2⟩ := cnt_chunk h2
          have e : (r.most x.m).1 = (cnt r.rest x.m).1 := by unfold Rd.most; simp only; rw [pass_true h1 h2, if_pos rfl]
          have e2 : (r.most x.m).2 = ⟨r.s, r.pos + (cnt r.rest x.m).2.1, 0⟩ := h3
          refine ⟨h1, ?_, ?_⟩
          · rw [e2, c1]; simp only [e]
          · simp only [e]; exact c2

/-- Two readers that told the same so far: if neither has failed, they have read the same bytes. -/
def Alike (s t : ByteArray) (y z : Rd) : Prop := y.s = s ∧ z.s = t ∧ y.Ok ∧ z.Ok ∧ (y.f = 0 → z.f = 0 → y.pos = z.pos ∧ s.data.toList.take y.pos = t.data.toList.take z.pos)

theorem alike_start {s t : ByteArray} (hs : s.size ≤ 281474976710656) (ht : t.size ≤ 281474976710656) : Alike s t ⟨s, 0, 0⟩ ⟨t, 0, 0⟩ :=
  ⟨rfl, rfl, ⟨Nat.zero_le _, Nat.zero_le _, hs⟩, ⟨Nat.zero_le _, Nat.zero_le _, ht⟩, fun _ _ => ⟨rfl, by simp⟩⟩

theorem take_chunk {l ch tl : List UInt8} {p : Nat} (hp : p ≤ l.length) (h : l.drop p = ch ++ tl) : l.take (p + ch.length) = l.take p ++ ch := by
  have e : l = l.take p ++ (ch ++ tl) := by rw [← h, List.take_append_drop]
  have hl : (l.take p).length = p := by rw [List.length_take]; omega
  conv => lhs; rw [e]
  rw [List.take_append, hl, Nat.add_sub_cancel_left, List.take_left, List.take_of_length_le (by omega)]

theorem go_s (r : Rd) (sz e : Nat) : (r.go sz e).s = r.s := by
  unfold Rd.go
  split
  · split <;> rfl
  · rfl
theorem rdI_s (r : Rd) (x : It) : (rdI r x).2.s = r.s := by
  unfold rdI
  split
  · exact go_s _ _ _
  · split
    · exact go_s _ _ _
    · split
      · exact go_s _ _ _
      · split <;> exact go_s _ _ _

theorem alike_step {s t : ByteArray} {y z y' z' : Rd} {x v : It} (h : Alike s t y z) (hy : rdI y x = (v, y')) (hz : rdI z x = (v, z')) : Alike s t y' z' := by
  obtain ⟨h1, h2, h3, h4, h5⟩ := h
  have ey := rdI_s y x
  have ez := rdI_s z x
  have oy := rdI_ok h3 x
  have oz := rdI_ok h4 x
  rw [hy] at ey oy
  rw [hz] at ez oz
  refine ⟨ey.trans h1, ez.trans h2, oy, oz, fun fy fz => ?_⟩
  obtain ⟨a1, a2, a3⟩ := rd_chunk hy fy
  obtain ⟨b1, b2, b3⟩ := rd_chunk hz fz
  obtain ⟨c1, c2⟩ := h5 a1 b1
  have hp := h3.pos
  have hq := h4.pos
  rw [h1] at hp
  rw [h2] at hq
  unfold Rd.rest at a3 b3
  rw [h1] at a3
  rw [h2] at b3
  rw [a2, b2]
  refine ⟨by show y.pos + _ = z.pos + _; rw [c1], ?_⟩
  show s.data.toList.take (y.pos + _) = t.data.toList.take (z.pos + _)
  rw [take_chunk (by simpa using hp) a3, take_chunk (by simpa using hq) b3, c2]

/-- Where two readers tell something else for one item, it is in one field. -/
theorem rd_differ {y z y' z' : Rd} {x : It} {d1 n1 b1 d2 n2 b2 : Nat} {i1 m1 i2 m2 : Int} {s1 s2 : ByteArray} (hy : rdI y x = (⟨d1, n1, i1, s1, b1, m1⟩, y')) (hz : rdI z x = (⟨d2, n2, i2, s2, b2, m2⟩, z'))
    (hne : (⟨d1, n1, i1, s1, b1, m1⟩ : It) ≠ ⟨d2, n2, i2, s2, b2, m2⟩) :
    d2 = d1 ∧ m2 = m1 ∧ ((n1 ≠ n2 ∧ i2 = i1 ∧ s2 = s1 ∧ b2 = b1) ∨ (n2 = n1 ∧ i1 ≠ i2 ∧ s2 = s1 ∧ b2 = b1) ∨ (n2 = n1 ∧ i2 = i1 ∧ s1 ≠ s2 ∧ b2 = b1) ∨ (n2 = n1 ∧ i2 = i1 ∧ s2 = s1 ∧ b1 ≠ b2)) := by
  unfold rdI at hy hz
  by_cases d0 : x.d = 0
  · rw [if_pos d0] at hy hz
    simp only [Prod.mk.injEq, It.mk.injEq] at hy hz
    obtain ⟨⟨rfl, rfl, rfl, rfl, rfl, rfl⟩, -⟩ := hy
    obtain ⟨⟨rfl, rfl, rfl, rfl, rfl, rfl⟩, -⟩ := hz
    refine ⟨rfl, rfl, .inl ⟨fun h => hne (by rw [h]), rfl, rfl, rfl⟩⟩
  · rw [if_neg d0] at hy hz
    by_cases d1' : x.d = 1
    · rw [if_pos d1'] at hy hz
      simp only [Prod.mk.injEq, It.mk.injEq] at hy hz
      obtain ⟨⟨rfl, rfl, rfl, rfl, rfl, rfl⟩, -⟩ := hy
      obtain ⟨⟨rfl, rfl, rfl, rfl, rfl, rfl⟩, -⟩ := hz
      refine ⟨rfl, rfl, .inr (.inl ⟨rfl, fun h => hne (by rw [h]), rfl, rfl⟩)⟩
    · rw [if_neg d1'] at hy hz
      by_cases d2' : x.d = 2
      · rw [if_pos d2'] at hy hz
        simp only [Prod.mk.injEq, It.mk.injEq] at hy hz
        obtain ⟨⟨rfl, rfl, rfl, rfl, rfl, rfl⟩, -⟩ := hy
        obtain ⟨⟨rfl, rfl, rfl, rfl, rfl, rfl⟩, -⟩ := hz
        refine ⟨rfl, rfl, .inr (.inr (.inl ⟨rfl, rfl, fun h => hne (by rw [h]), rfl⟩))⟩
      · rw [if_neg d2'] at hy hz
        by_cases d3 : x.d = 3
        · rw [if_pos d3] at hy hz
          simp only [Prod.mk.injEq, It.mk.injEq] at hy hz
          obtain ⟨⟨rfl, rfl, rfl, rfl, rfl, rfl⟩, -⟩ := hy
          obtain ⟨⟨rfl, rfl, rfl, rfl, rfl, rfl⟩, -⟩ := hz
          refine ⟨rfl, rfl, .inr (.inr (.inr ⟨rfl, rfl, rfl, fun h => hne (by rw [h])⟩))⟩
        · rw [if_neg d3] at hy hz
          simp only [Prod.mk.injEq, It.mk.injEq] at hy hz
          obtain ⟨⟨rfl, rfl, rfl, rfl, rfl, rfl⟩, -⟩ := hy
          obtain ⟨⟨rfl, rfl, rfl, rfl, rfl, rfl⟩, -⟩ := hz
          refine ⟨rfl, rfl, .inl ⟨fun h => hne (by rw [h]), rfl, rfl, rfl⟩⟩

theorem alike_end {s t : ByteArray} {y z : Rd} (h : Alike s t y z) (hy : y.fin = 0) (hz : z.fin = 0) : s = t := by
  obtain ⟨h1, h2, h3, h4, h5⟩ := h
  have fin0 : ∀ r : Rd, r.fin = 0 → r.f = 0 ∧ r.rest = [] := by
    intro r hr
    unfold Rd.fin at hr
    by_cases hf : r.f = 0
    · rw [if_neg (by omega)] at hr
      by_cases hl : r.rest = []
      · exact ⟨hf, hl⟩
      · rw [if_neg hl] at hr; omega
    · rw [if_pos hf] at hr; omega
  obtain ⟨fy, ry⟩ := fin0 y hy
  obtain ⟨fz, rz⟩ := fin0 z hz
  obtain ⟨c1, c2⟩ := h5 fy fz
  have ly := y.rest_length
  have lz := z.rest_length
  rw [ry, h1] at ly
  rw [rz, h2] at lz
  simp only [List.length_nil] at ly lz
  rw [List.take_of_length_le (by simp; omega), List.take_of_length_le (by simp; omega)] at c2
  exact ByteArray.ext (Array.ext' c2)
end Go.Proofs.YtibpgmcpcelmpaaGreatDoor

/-
  What the calls of the document's own reader do (Num, Most, Text, Byte), and Zag, said of the plain reader.
-/
namespace Go.Proofs.YtibpgmcpcelmpaaGreatDoor
open Go.RowKit Pk

structure RStp (w w' : World) (b : Nat) (r : Rd) : Prop where
  grown : w.grownBy w' (some b)
  inAt : rinAt w' b r

theorem rinAt.free {w : World} {b : Nat} {r : Rd} (h : rinAt w b r) (o : Nat) : w.frozen? ⟨b, o, none⟩ = false := by
  unfold rinAt at h
  simp [World.frozen?, h]
theorem rinAt.cell {w : World} {b : Nat} {r : Rd} (h : rinAt w b r) :
    w.cell? ⟨b, 0, none⟩ = some (.string r.s) ∧ w.cell? ⟨b, 1, none⟩ = some (.int .i64 r.pos) ∧ w.cell? ⟨b, 2, none⟩ = some (.int .i64 r.f) := ⟨cells_of h 0 _ rfl, cells_of h 1 _ rfl, cells_of h 2 _ rfl⟩

set_option maxHeartbeats 1000000 in
theorem rnum_in {w : World} {b : Nat} {r : Rd} (hin : rinAt w b r) (hr : r.Ok) :
    Calls Tryz.prog 59 #[.pointer (some ⟨b, 0, none⟩)] w fun e w' => e = .returned (.int .u64 r.num.1) ∧ RStp w w' b r.num.2 := by
  obtain ⟨c0, c1, c2⟩ := hin.cell
  have HIN := Lib.hid hin
  by_cases hf : r.f = 0
  · have hb := dec_bd r.rest
    have he := dec_err r.rest 0 0
    have H0 := next_in hin hr
    unfold Rd.num
    obtain ⟨v, sz, er, hd⟩ : ∃ v sz er, dec 0 0 r.rest = (v, sz, er) := ⟨_, _, _, rfl⟩
    rw [hd] at hb H0 he ⊢
    simp only at hb H0 he ⊢
    have H := Lib.hid H0
    have HO := Lib.hid hr
    have hp := hr.pos
    have hlim := hr.lim
    rw [hf] at c2
    have HF := Lib.hid hf
    have Hval : Hid ((if r.pass er = true then v else 0) = v) := by
      by_cases h0 : er = 0
      · show _ = _; rw [pass_true hf h0, if_pos rfl]
      · show _ = _
        rw [pass_false (.inr h0), if_neg (by decide)]
        simp only [Prod.mk.injEq] at he
        omega
    have Hgo : Hid (r.go sz er = ⟨r.s, r.pos + sz, er⟩) := by
      show _ = _
      unfold Rd.go
      rw [if_pos hf]
      by_cases h0 : er = 0
      · rw [if_pos h0, hf, h0]
      · rw [if_neg h0]
        have : sz = 0 := by simp only [Prod.mk.injEq] at he; omega
        rw [this]
        rfl
    obtain ⟨hb1, hb2, hb3, hb4⟩ := hb
    rw [Hval.out, Hgo.out]
    clear H0 hd he hin hr hf
    go_enter Tryz.func59, Tryz.ntmps59
    go_wp2_with fail
    refine (H.out).mono ?_
    rintro e w1 ⟨rfl, hbl⟩
    have h1 := HIN.out.low hbl
    obtain ⟨a0, a1, a2⟩ := h1.cell
    have f1 := h1.free 1
    have f2 := h1.free 2
    have H1 := Lib.hid h1
    have HBL := Lib.hid hbl
    clear h1 hbl
    go_wp2
    go_ret
    refine ⟨rfl, grown_set (grown_set (grown_below HBL.out) _ _) _ _, ?_⟩
    unfold rinAt
    rw [heap_set (heap_set H1.out 2 _) 1 _]
    simp
  · have h3' : ((r.f : Int) == 0) = false := by rw [beq_eq_false_iff_ne]; omega
    have h3 : ¬ ((r.f : Int) = 0) := by omega
    rw [fail_num hf]
    go_enter Tryz.func59, Tryz.ntmps59
    go_wp2
    go_ret
    exact ⟨rfl, grown_refl _ _, HIN.out⟩

set_option maxHeartbeats 1000000 in
theorem rmost_in {w : World} {b : Nat} {r : Rd} (hin : rinAt w b r) (hr : r.Ok) (m : Int) (hm : -9223372036854775808 ≤ m ∧ m ≤ 9223372036854775807) :
    Calls Tryz.prog 58 #[.pointer (some ⟨b, 0, none⟩), .int .i64 m] w fun e w' => e = .returned (.int .i64 (r.most m).1) ∧ RStp w w' b (r.most m).2 := by
  obtain ⟨c0, c1, c2⟩ := hin.cell
  have H0 := rnum_in hin hr
  have hok := hr.num
  have H := Lib.hid H0
  obtain ⟨hm1, hm2⟩ := hm
  by_cases hf : r.num.2.f = 0
  · obtain ⟨g1, g2, g3⟩ := go_fine hf
    have hv : r.num.1 = (dec 0 0 r.rest).1 := by unfold Rd.num; simp only; rw [pass_true g1 g2, if_pos rfl]
    have hvb := (dec_bd r.rest).1
    rw [← hv] at hvb
    by_cases hbad : m < 0 ∨ m < (r.num.1 : Int)
    · have hc : cnt r.rest m = (0, 0, 8) := by unfold cnt; exact if_pos ⟨g2, by rw [← hv]; exact hbad⟩
      have hmost : r.most m = (0, ⟨r.s, r.pos, 8⟩) := by
        unfold Rd.most
        rw [hc, pass_false (.inr (by decide))]
        unfold Rd.go
        rw [if_pos g1, if_neg (by decide)]
        rfl
      rw [hmost]
      have hs : r.num.2.s = r.s := go_s r _ _
      generalize r.num.1 = v at *
      generalize hr2 : r.num.2 = r2 at *
      have HS := Lib.hid hs
      have HF := Lib.hid hf
      have hd : m < 0 ∨ (0 ≤ m ∧ IntKind.u64.wrap m = m ∧ m < (v : Int)) := by
        by_cases hm0 : m < 0
        · exact .inl hm0
        · exact .inr ⟨by omega, IntWalk.u64_in m (by omega), by omega⟩
      clear hbad hc hmost H0 hv g1 g2 g3 hok hs hf hr2
      rcases hd with hd | ⟨hd1, hd2, hd3⟩
      all_goals
        go_enter Tryz.func58, Tryz.ntmps58
        go_wp2_with fail
        refine (H.out).mono ?_
        rintro e w1 ⟨rfl, hst⟩
        have h1 := hst.inAt
        obtain ⟨a0, a1, a2⟩ := h1.cell
        rw [HF.out] at a2
        have f1 := h1.free 1
        have f2 := h1.free 2
        have H1 := Lib.hid h1
        have HST := Lib.hid hst
        clear h1 hst
        go_wp2
        go_ret
        refine ⟨rfl, grown_set (grown_set HST.out.grown _ _) _ _, ?_⟩
        unfold rinAt
        rw [heap_set (heap_set H1.out 1 _) 2 _]
        simp [HS.out]
    · have hc : cnt r.rest m = dec 0 0 r.rest := by unfold cnt; exact if_neg (fun hx => by rw [← hv] at hx; exact hbad hx.2)
      have hmost : r.most m = (r.num.1, r.num.2) := by
        unfold Rd.most Rd.num
        rw [hc]
      rw [hmost]
      generalize r.num.1 = v at *
      generalize hr2 : r.num.2 = r2 at *
      have HF := Lib.hid hf
      have d1 : 0 ≤ m := by omega
      have d2 : IntKind.u64.wrap m = m := IntWalk.u64_in m (by omega)
      have d3 : (v : Int) ≤ m := by omega
      clear hbad hc hmost H0 hv g1 g2 g3 hok hf hr2
      go_enter Tryz.func58, Tryz.ntmps58
      go_wp2_with fail
      refine (H.out).mono ?_
      rintro e w1 ⟨rfl, hst⟩
      have h1 := hst.inAt
      obtain ⟨a0, a1, a2⟩ := h1.cell
      rw [HF.out] at a2
      have HST := Lib.hid hst
      clear h1 hst
      go_wp2
      go_ret
      exact ⟨rfl, HST.out⟩
  · have hmost : r.most m = (0, r.num.2) := by
      have hg : r.f ≠ 0 ∨ (dec 0 0 r.rest).2.2 ≠ 0 := by
        by_cases h1 : r.f = 0
        · right
          intro h2
          apply hf
          show (r.go _ _).f = 0
          rw [h2, go_ok h1]
          exact h1
        · exact .inl h1
      by_cases h1 : r.f = 0
      · have h2 : (dec 0 0 r.rest).2.2 ≠ 0 := by rcases hg with h | h; exact absurd h1 h; exact h
        have hc : cnt r.rest m = dec 0 0 r.rest := by unfold cnt; exact if_neg (fun hx => h2 hx.1)
        unfold Rd.most Rd.num
        rw [hc, pass_false hg, if_neg (by decide)]
      · rw [fail_most h1, fail_num h1]
    rw [hmost]
    have h3' : ((r.num.2.f : Int) == 0) = false := by rw [beq_eq_false_iff_ne]; omega
    have h3 : ¬ ((r.num.2.f : Int) = 0) := by omega
    generalize r.num.1 = v at *
    generalize hr2 : r.num.2 = r2 at *
    clear hmost H0 hok hf hr2
    go_enter Tryz.func58, Tryz.ntmps58
    go_wp2_with fail
    refine (H.out).mono ?_
    rintro e w1 ⟨rfl, hst⟩
    obtain ⟨a0, a1, a2⟩ := hst.inAt.cell
    have HST := Lib.hid hst
    clear hst
    go_wp2
    go_ret
    exact ⟨rfl, HST.out⟩
end Go.Proofs.YtibpgmcpcelmpaaGreatDoor

/-
  What the calls of the document's own reader do, further: Byte, Text.
-/
namespace Go.Proofs.YtibpgmcpcelmpaaGreatDoor
open Go.RowKit Pk

theorem byte_pos {r : Rd} (hf : r.f = 0) (h : r.pos < r.s.size) : r.byte = (r.s[r.pos].toNat, ⟨r.s, r.pos + 1, 0⟩) := by
  have hd : r.rest = r.s[r.pos] :: r.s.data.toList.drop (r.pos + 1) := drop_at h
  unfold Rd.byte
  have e : (if r.s[r.pos] :: r.s.data.toList.drop (r.pos + 1) = [] then 7 else 0) = 0 := if_neg (by simp)
  rw [hd, e, pass_true hf rfl, go_ok hf]
  simp [hf]
theorem byte_end {r : Rd} (hf : r.f = 0) (_hr : r.Ok) (h : ¬ r.pos < r.s.size) : r.byte = (0, ⟨r.s, r.pos, 7⟩) := by
  have hl := r.rest_length
  have hd : r.rest = [] := List.eq_nil_of_length_eq_zero (by omega)
  unfold Rd.byte
  rw [if_pos hd, pass_false (.inr (by decide))]
  unfold Rd.go
  rw [if_pos hf, if_neg (by decide)]
  rfl

theorem rinAt.drewN {w : World} {b : Nat} {r : Rd} (h : rinAt w b r) (n : Nat) : rinAt (w.drewN n) b r := h
theorem RStp.drewN {w w' : World} {b : Nat} {r : Rd} (h : RStp w w' b r) (n : Nat) : RStp w (w'.drewN n) b r := ⟨grown_drewN h.grown n, h.inAt⟩

theorem text_cases (r : Rd) (m : Int) : (r.most m).2.f ≠ 0 ∧ r.text m = ([], (r.most m).2) ∨
    ∃ v sz, r.f = 0 ∧ r.most m = (v, ⟨r.s, r.pos + sz, 0⟩) ∧ sz ≤ r.rest.length ∧ sz ≤ 10 ∧
      (r.rest.length - sz < v ∧ r.text m = ([], ⟨r.s, r.pos, 7⟩) ∨ sz + v ≤ r.rest.length ∧ r.text m = ((r.rest.drop sz).take v, ⟨r.s, r.pos + sz + v, 0⟩)) := by
  by_cases hf : r.f = 0
  · have hb := cnt_bd r.rest m
    have hT : terr r.rest m = if (cnt r.rest m).2.2 = 0 ∧ r.rest.length - (cnt r.rest m).2.1 < (cnt r.rest m).1 then 7 else (cnt r.rest m).2.2 := rfl
    unfold Rd.most Rd.text
    obtain ⟨v, sz, er, hd⟩ : ∃ v sz er, cnt r.rest m = (v, sz, er) := ⟨_, _, _, rfl⟩
    rw [hd] at hb hT ⊢
    simp only at hb hT ⊢
    obtain ⟨hb1, hb2, hb3, hb4⟩ := hb
    by_cases he : er = 0
    · subst he
      right
      refine ⟨v, sz, hf, ?_, hb3, hb2, ?_⟩
      · rw [pass_true hf rfl, if_pos rfl, go_ok hf, hf]
      · by_cases h1 : r.rest.length - sz < v
        · left
          rw [if_pos ⟨rfl, h1⟩] at hT
          rw [hT, pass_false (.inr (by decide))]
          refine ⟨h1, ?_⟩
          unfold Rd.go
          rw [if_pos hf, if_neg (by decide)]
          rfl
        · right
          rw [if_neg (fun h => h1 h.2)] at hT
          rw [hT, pass_true hf rfl, if_pos rfl, go_ok hf, hf, Nat.add_assoc]
          exact ⟨by omega, rfl⟩
    · left
      rw [if_neg (fun h => he h.1)] at hT
      rw [hT, pass_false (.inr he)]
      unfold Rd.go
      simp only [if_pos hf, if_neg he]
      exact ⟨he, rfl⟩
  · left
    rw [fail_most hf, fail_text hf]
    exact ⟨hf, rfl⟩

set_option maxHeartbeats 1000000 in
theorem rtext_in {w : World} {b : Nat} {r : Rd} (hin : rinAt w b r) (hr : r.Ok) (m : Int) (hm : -9223372036854775808 ≤ m ∧ m ≤ 9223372036854775807) :
    Calls Tryz.prog 60 #[.pointer (some ⟨b, 0, none⟩), .int .i64 m] w fun e w' => e = .returned (.string ⟨(r.text m).1.toArray⟩) ∧ RStp w w' b (r.text m).2 := by
  obtain ⟨c0, c1, c2⟩ := hin.cell
  have H := Lib.hid (rmost_in hin hr m hm)
  have hl := r.rest_length
  have hp := hr.pos
  have hlim := hr.lim
  obtain ⟨hm1, hm2⟩ := hm
  rcases text_cases r m with ⟨hf, ht⟩ | ⟨v, sz, hf, hmost, hsz, hsz2, ⟨hv, ht⟩ | ⟨hv, ht⟩⟩
  · rw [ht]
    have h3' : (((r.most m).2.f : Int) == 0) = false := by rw [beq_eq_false_iff_ne]; omega
    have h3 : ¬ (((r.most m).2.f : Int) = 0) := by omega
    clear ht hf hr hin
    generalize (r.most m).1 = v at *
    generalize (r.most m).2 = r2 at *
    go_enter Tryz.func60, Tryz.ntmps60
    go_wp2_with fail
    refine (H.out).mono ?_
    rintro e w1 ⟨rfl, hst⟩
    obtain ⟨a0, a1, a2⟩ := hst.inAt.cell
    have HST := Lib.hid hst
    clear hst
    go_wp2_with fail
    go_quiet (fail)
    go_wp2
    go_ret
    exact ⟨rfl, HST.out.drewN _⟩
  · rw [ht]
    rw [hmost] at H
    have hlt : (r.s.size : Int) - (r.pos + sz : Nat) < v := by omega
    clear ht hf hr hin hmost
    go_enter Tryz.func60, Tryz.ntmps60
    go_wp2_with fail
    refine (H.out).mono ?_
    rintro e w1 ⟨rfl, hst⟩
    have h1 := hst.inAt
    obtain ⟨a0, a1, a2⟩ := h1.cell
    have f1 := h1.free 1
    have f2 := h1.free 2
    have H1 := Lib.hid h1
    have HST := Lib.hid hst
    clear hst h1
    simp only at a0 a1 a2
    go_wp2_with fail
    go_quiet (fail)
    go_wp2
    go_ret
    refine ⟨rfl, grown_set (grown_set (HST.out.drewN _).grown _ _) _ _, ?_⟩
    unfold rinAt
    rw [heap_set (heap_set (H1.out.drewN _) 1 _) 2 _]
    simp
  · rw [ht]
    rw [hmost] at H
    have hlt : ¬ ((r.s.size : Int) - (r.pos + sz : Nat) < v) := by omega
    have hex : r.s.extract (r.pos + sz) (r.pos + sz + v) = ⟨((r.rest.drop sz).take v).toArray⟩ := by
      apply ByteArray.ext
      apply Array.ext'
      rw [Lib.extract_data, Nat.add_sub_cancel_left]
      show _ = ((r.s.data.toList.drop r.pos).drop sz).take v
      rw [List.drop_drop]
    have g1 : (0 : Int) ≤ (r.pos : Int) + sz := by omega
    have g2 : (r.pos : Int) + sz ≤ (r.pos : Int) + sz + v := by omega
    have g3 : (r.pos : Int) + sz + v ≤ r.s.size := by omega
    have hsl := fun W => @run_slice_string Tryz.prog W 9 r.s .i64 .i64 ((r.pos : Int) + sz) ((r.pos : Int) + sz + v) Tryz.underlying9 g1 g2 g3
    rw [show ((r.pos : Int) + sz).toNat = r.pos + sz from by omega, show ((r.pos : Int) + sz + v).toNat = r.pos + sz + v from by omega, hex] at hsl
    have hsub : (r.pos : Int) + sz + v - v = (r.pos : Int) + sz := by omega
    clear ht hf hr hin hmost hex
    go_enter Tryz.func60, Tryz.ntmps60
    go_wp2_with fail
    refine (H.out).mono ?_
    rintro e w1 ⟨rfl, hst⟩
    have h1 := hst.inAt
    obtain ⟨a0, a1, a2⟩ := h1.cell
    have f1 := h1.free 1
    have f2 := h1.free 2
    have H1 := Lib.hid h1
    have HST := Lib.hid hst
    clear hst h1
    simp only at a0 a1 a2
    go_wp2_with fail
    go_quiet (fail)
    go_wp2_with fail
    go_quiet (fail)
    go_wp2
    go_ret
    refine ⟨rfl, grown_drewN (grown_set (HST.out.drewN _).grown _ _) _, rinAt.drewN ?_ _⟩
    unfold rinAt
    rw [heap_set (H1.out.drewN _) 1 _]
    simp
end Go.Proofs.YtibpgmcpcelmpaaGreatDoor
