/-
  A map as the program has it; has, New, Len; maps.Copy into a map that is new.
-/
import Derived.Test.YtehkbffbehlpnaaOmMap
import Derived.Test.YtehkbffbehlpnaaMem
import Derived.Laws.IdiomRangeMap
import Derived.Carry
namespace Go.Proofs.Ytehkbffbehlpnaa
open Go.RowKit Go.Maps
namespace Om
/-- Pairs that a map may have. -/
structure Good (l : List Pr) : Prop where
  rises : Rises l
  fair : ∀ x ∈ l, Fair x
  len : l.length ≤ 48
theorem Good.nil : Good [] := ⟨List.Pairwise.nil, fun x hx => by simp at hx, by simp⟩
abbrev HasP (w : World) (mb : Option Nat) (l : List Pr) : Prop := Has Try.prog 9 w mb l
abbrev MapP (w : World) (b : Nat) (l : List Pr) : Prop := MapAt Try.prog 9 w b l
/-- In block r lies a Map whose map is mb. -/
structure At (w : World) (r : Nat) (mb : Option Nat) (l : List Pr) : Prop where
  cell : w.heap[r]? = some (.cells #[.map mb] 74 (0, 0))
  has : HasP w mb l
/-- A pointer to a Map, or none. -/
def Ptr (w : World) (v : Value) (mb : Option Nat) (l : List Pr) : Prop := (v = .pointer none ∧ mb = none ∧ l = []) ∨ ∃ r, v = .pointer (some ⟨r, 0, none⟩) ∧ At w r mb l
theorem At.ptr {w : World} {r : Nat} {mb : Option Nat} {l : List Pr} (h : At w r mb l) : Ptr w (.pointer (some ⟨r, 0, none⟩)) mb l := .inr ⟨r, rfl, h⟩
theorem Ptr.nil (w : World) : Ptr w (.pointer none) none [] := .inl ⟨rfl, rfl, rfl⟩
theorem Ptr.has {w : World} {v : Value} {mb : Option Nat} {l : List Pr} (h : Ptr w v mb l) : HasP w mb l := by
  rcases h with ⟨_, rfl, rfl⟩ | ⟨r, _, h⟩
  · exact .inl ⟨rfl, rfl⟩
  · exact h.has
theorem At.lt {w : World} {r : Nat} {mb : Option Nat} {l : List Pr} (h : At w r mb l) : r < w.heap.size := Sm.lt_of h.cell
theorem At.kept {w w' : World} {r : Nat} {mb : Option Nat} {l : List Pr} (h : At w r mb l) (hr : w'.heap[r]? = w.heap[r]?) (hb : ∀ b, mb = some b → w'.heap[b]? = w.heap[b]?) : At w' r mb l := ⟨hr.trans h.cell, h.has.block hb⟩
theorem At.below {w w' : World} {B r : Nat} {mb : Option Nat} {l : List Pr} (h : At w r mb l) (k : Below B w w') (hB : w.heap.size ≤ B) : At w' r mb l :=
  h.kept (k.block r (Nat.lt_of_lt_of_le h.lt hB)) fun b hb => k.block b (Nat.lt_of_lt_of_le (h.has.lt hb) hB)
theorem Ptr.below {w w' : World} {B : Nat} {v : Value} {mb : Option Nat} {l : List Pr} (h : Ptr w v mb l) (k : Below B w w') (hB : w.heap.size ≤ B) : Ptr w' v mb l := by
  rcases h with h | ⟨r, h1, h⟩
  · exact .inl h
  · exact .inr ⟨r, h1, h.below k hB⟩
theorem Has.belowP {w w' : World} {B : Nat} {mb : Option Nat} {l : List Pr} (h : HasP w mb l) (k : Below B w w') (hB : w.heap.size ≤ B) : HasP w' mb l :=
  h.block fun b hb => k.block b (Nat.lt_of_lt_of_le (h.lt hb) hB)
/-- Another block of cells is written: the map stays. -/
theorem At.other {w w' : World} {q r : Nat} {mb : Option Nat} {l : List Pr} (h : At w r mb l) (hg : w.grownBy w' (some q)) (hq : r ≠ q) {cs : Array Value} {t : TypeId} {f : Nat × Nat} (hc : w.heap[q]? = some (.cells cs t f)) : At w' r mb l :=
  h.kept (hg.block r h.lt fun e => hq (Option.some.inj e)) fun b hb => hg.block b (h.has.lt hb) fun e => by
    obtain ⟨es, c, h3⟩ := h.has.kind hb
    rw [Option.some.inj e, hc] at h3
    cases h3
theorem und_omap : ∃ fs, Try.prog.underlying 74 = some (.struct fs) := by
  have h : (match Try.prog.underlying 74 with | some (.struct _) => true | _ => false) = true := by kernel_rfl
  split at h
  · rename_i fs hfs; exact ⟨fs, hfs⟩
  · cases h
def zeroP : Value := .agg #[.string ⟨#[]⟩, .string ⟨#[]⟩]
theorem zero_pair (w : World) : (zeroValue 62).run Try.prog w = .ok zeroP w :=
  (zero_of_info (show (Try.prog.info? 62).map (fun i => (i.zero, i.size)) = some (some zeroP, 2) by kernel_rfl)).1 w
end Om
set_option maxRecDepth 100000 in
theorem omHas_any {w : World} {v : Value} {mb : Option Nat} {l : List Om.Pr} (h : Om.Ptr w v mb l) : Calls Try.prog 46 #[v] w fun e w' => e = .returned (.map mb) ∧ w = w' := by
  rcases h with ⟨rfl, rfl, rfl⟩ | ⟨r, rfl, h⟩
  · go_enter Try.func46, Try.ntmps46
    go_wp2
    go_ret
    exact ⟨rfl, rfl⟩
  · have c0 := Sm.cells_of h.cell 0 _ rfl
    clear h
    go_enter Try.func46, Try.ntmps46
    go_wp2
    go_ret
    exact ⟨rfl, rfl⟩
theorem omNew_any (w : World) : Calls Try.prog 16 #[] w fun e w' => e = .returned (.pointer (some ⟨w.heap.size, 0, none⟩)) ∧ w' = w.alloc (.cells #[.map none] 74) := by
  go_enter Try.func16, Try.ntmps16
  go_wp2
  go_ret
  exact ⟨rfl, rfl⟩
theorem Om.At.made (w : World) : Om.At (w.alloc (.cells #[.map none] 74)) w.heap.size none [] := ⟨heap_alloc_new _ _, .inl ⟨rfl, rfl⟩⟩
theorem omLen_any {w : World} {v : Value} {mb : Option Nat} {l : List Om.Pr} (h : Om.Ptr w v mb l) : Calls Try.prog 21 #[v] w fun e w' => e = .returned (.int .i64 (l.length : Nat)) ∧ w = w' := by
  have C := Lib.hid (omHas_any h)
  have hl := fun ty => h.has.len Try.underlying69 ty
  clear h
  go_enter Try.func21, Try.ntmps21
  go_wp2_with (go_at_call 46; refine C.out.mono ?_; rintro e w' ⟨rfl, rfl⟩)
  go_ret
  exact ⟨rfl, rfl⟩
set_option maxRecDepth 100000 in
set_option maxHeartbeats 2000000 in
/-- maps.Copy into a map that has nothing. -/
theorem mapsCopyPair_any {w : World} {bd : Nat} {mb : Option Nat} {l : List Om.Pr} (hd : Om.MapP w bd []) (hs : Om.HasP w mb l) (hne : mb ≠ some bd) (hlen : l.length ≤ 4096) :
    Calls Try.prog 63 #[.map (some bd), .map mb] w fun e w' => e = .returned (.tuple #[]) ∧ Om.MapP w' bd l ∧ w.grownBy w' (some bd) := by
  have hdl := hd.lt
  rcases hs with ⟨rfl, rfl⟩ | ⟨b, rfl, hs⟩
  · have hrg := run_range_nilMap (P := Try.prog) w 69 _ _ Try.underlying69
    have hnx : ∀ ty, (Instr.next (.pointer (some ⟨w.heap.size, 0, none⟩)) false ty).run Try.prog (w.alloc (.mapIter none 0 #[] 0)) = _ := fun ty => run_next_nilMap _ ty 0 0 #[]
    go_enter Try.func63, Try.ntmps63
    go_wp2
    refine wp_loop_rounds 1 ?_
    rw [rounds_succ]
    go_wp2
    go_end0
    exact ⟨rfl, hd.block (Below.heap_alloc _ _ _ hdl), World.grownBy_alloc w _ _⟩
  · have hbd : b ≠ bd := fun e => hne (by rw [e])
    have hR := hs.rises
    obtain ⟨w0, hrun, hrg0, hg0, hs0⟩ := hs.range Try.underlying9 Try.underlying69
    have hd0 : Om.MapP w0 bd [] := hd.block (hg0.block bd hdl (by simp))
    have HR0 := Lib.hid hrg0
    have HD0 := Lib.hid hd0
    have HG0 := Lib.hid hg0
    have HRI := Lib.hid hR
    have HL := Lib.hid hlen
    clear hd hs hrg0 hd0 hg0 hR hne hlen
    go_enter Try.func63, Try.ntmps63
    go_wp2
    obtain ⟨N, hN⟩ : ∃ N, N = w.heap.size := ⟨_, rfl⟩
    rw [← hN] at HR0 hrun ⊢
    have HN := Lib.hid hN
    have HDL : Hid (bd < N) := by show bd < N; rw [hN]; exact hdl
    clear hN hs0 hrun hdl
    go_loopw [8] (fun _ wr => ∃ (left : ByteArray → Bool) (cnt : Nat) (m : List Om.Pr), Om.RangeAt Try.prog 9 wr b N l left cnt ∧ Om.MapP wr bd m ∧ (∀ q, Om.get q m = if left q then none else Om.get q l) ∧ m.length + cnt ≤ l.length ∧ w.grownBy wr (some bd)) (fun _ wr => wr.rangeLeft b N)
    case atStart =>
      refine ⟨_, l.length, [], HR0.out, HD0.out, fun q => ?_, by simp, HG0.out.but _⟩
      cases hq : Om.get q l <;> simp [Om.get]
    case round =>
      clear HR0 HD0 HG0
      obtain ⟨left, cnt, m, hrg, hm, hget, hcnt, hgw⟩ := hrel
      have HRG := Lib.hid hrg
      have HM := Lib.hid hm
      have HGET := Lib.hid hget
      have HC := Lib.hid hcnt
      have HGW := Lib.hid hgw
      rcases hrg.next Try.underlying9 0 with ⟨hall, hnext⟩ | ⟨p, v, w2, cnt2, hl, hF, hp, hnext, hrg2, hlt, hg2, hs2, hen⟩
      · have HALL := Lib.hid hall
        clear hrg hm hget hcnt hgw hall
        go_wp2
        go_end0
        have e : m = l := Om.rises_ext HM.out.rises HRI.out fun q => by rw [HGET.out q, HALL.out q]; rfl
        subst e
        exact ⟨rfl, HM.out, HGW.out⟩
      · have hm2 : Om.MapP w2 bd m := hm.block (hg2.block bd hm.lt fun e => by
          obtain ⟨m', s', sn, c', hit⟩ := hrg.iter
          obtain ⟨es, c, hk⟩ := hm.kind
          rw [← Option.some.inj e, hk] at hit; cases hit)
        have hrgN := hrg2.lt
        have hm3 : Om.MapP (w2.alloc (.cells #[.string p, .string v] 62)) bd m := hm2.block (Below.heap_alloc _ _ _ hm2.lt)
        obtain ⟨w4, hup, hm4, ht4⟩ := hm3.store Try.underlying9 Try.underlying69 (by have := HL.out; unfold maxLen; omega) hp v
        have gn := heap_alloc_new w2 (.cells #[.string p, .string v] 62)
        have x0 := Sm.cells_of gn 0 _ rfl
        have x1 := Sm.cells_of gn 1 _ rfl
        have hrg3 : Om.RangeAt Try.prog 9 (w2.alloc (.cells #[.string p, .string v] 62)) b N l (fun q => left q && !decide (q = p)) cnt2 := hrg2.block (Below.heap_alloc _ _ _ hrg2.map.lt) (Below.heap_alloc _ _ _ hrgN)
        have hg4 := ht4.grown
        have hrg4 : Om.RangeAt Try.prog 9 w4 b N l (fun q => left q && !decide (q = p)) cnt2 := hrg3.block (hg4.block b hrg3.map.lt fun e => hbd (Option.some.inj e)) (hg4.block N hrg3.lt fun e => by have := HDL.out; have := Option.some.inj e; omega)
        have HRG4 := Lib.hid hrg4
        have HM4 := Lib.hid hm4
        have HLT := Lib.hid hlt
        have HGW4 : Hid (w.grownBy w4 (some bd)) := ((hgw.andThen hg2 (fun j hj => .inl (by cases hj; exact Nat.le_of_eq HN.out.symm))).andThen (World.grownBy_alloc w2 (.cells #[.string p, .string v] 62) none) (fun j hj => by cases hj)).andThen hg4 (fun j hj => .inr hj)
        have HLQ : Hid (Om.get p l = some v) := hF
        have HLP : Hid (left p = true) := hl
        clear hrg hm hget hcnt hgw hl hF hp hrg2 hlt hg2 hs2 hm2 hrgN hm3 hm4 ht4 gn hrg3 hg4 hrg4
        go_wp2
        go_roundw
        case rel =>
          refine ⟨_, cnt2, _, HRG4.out, HM4.out, fun q => ?_, ?_, HGW4.out⟩
          · rw [Om.get_put q HM.out.rises, HGET.out q]
            by_cases hq : q = p
            · subst hq
              rw [if_pos rfl]
              simp [HLQ.out]
            · rw [if_neg hq]
              simp [hq]
          · rw [Om.put_length]
            have := HC.out
            have := HLT.out
            split <;> omega
        case measure => rw [HRG4.out.left_eq, HRG.out.left_eq]; exact HLT.out
end Go.Proofs.Ytehkbffbehlpnaa
