/-
  batch's first, whyNot, May and Right.
-/
import Derived.Test.YtehkbffbehlpnaaBaWhy
import Derived.Test.YtehkbffbehlpnaaBaActs
namespace Go.Proofs.Ytehkbffbehlpnaa
open Go.RowKit Pk
set_option maxRecDepth 100000 in
set_option maxHeartbeats 2000000 in
theorem baFirst_any {w : World} {B : Option Addr} {l : List Ba.Op} (d : Nat) (hit : Ba.listAt w B l) (hll : l.length ≤ 9223372036854775807) (f : Ba.Op → Nat) (g : Nat)
    (HC : ∀ (wx : World) (o : Ba.Op), Below w.heap.size w wx → o ∈ l → Calls Try.prog 74 #[.agg #[.int .u8 (o.k : Int), .string o.p, .string o.v], .pointer (some ⟨g, 0, none⟩)] wx fun e w' => e = .returned (.int .i64 (f o : Nat)) ∧ Below wx.heap.size wx w') :
    Calls Try.prog 60 #[.slice B l.length d, .func (.func 74) #[] #[.pointer (some ⟨g, 0, none⟩)]] w fun e w' => e = .returned (.int .i64 (Ba.firstE f l : Nat)) ∧ Below w.heap.size w w' := by
  have eg : ∀ args w, (callFunc 74 args).run Try.prog w = .ok (.enter 74 args) w := Go.Proofs.enters_of Try.func74 (by kernel_rfl) rfl
  have HIT : Hid (∀ wx : World, Below w.heap.size w wx → ∀ j (hj : j < l.length), ∃ b off, B = some ⟨b, off, none⟩ ∧ b < w.heap.size ∧ Ba.opAt wx b (off + j * 3) l[j]) := fun wx k j hj => hit.get k j hj
  have HCC := Lib.hid HC
  clear hit HC
  unfold Ba.firstE
  by_cases h4 : 4 < l.length
  · rw [if_pos h4]
    have h4' : (4 : Int) < (l.length : Int) := by omega
    go_enter Try.func60, Try.ntmps60
    go_wp2
    go_ret
    exact ⟨rfl, Below.refl _ _⟩
  rw [if_neg h4]
  have h4' : ¬ (4 : Int) < (l.length : Int) := by omega
  obtain ⟨R, hR⟩ : ∃ R, R = Ba.whys f l := ⟨_, rfl⟩
  rw [← hR]
  have HR : Hid (R = Ba.whys f (l.drop 0)) := by show _ = _; rw [List.drop_zero]; exact hR
  obtain ⟨N, hN⟩ : ∃ N, N = w.heap.size := ⟨_, rfl⟩
  rw [← hN] at HIT HCC ⊢
  have HN := Lib.hid hN
  have B0 : Hid (Below N w w) := Below.refl _ _
  clear hR hN
  go_enter Try.func60, Try.ntmps60
  go_wp2
  go_loopw [13] (fun v wr => ∃ k : Nat, v = .int .i64 k ∧ k ≤ l.length ∧ Hid (R = Ba.whys f (l.drop k)) ∧ Below N w wr) (fun v _ => l.length - (intOf v).toNat)
  case atStart => exact ⟨0, rfl, Nat.zero_le _, HR.out, B0.out⟩
  case round =>
    clear HR B0
    obtain ⟨k, rfl, hk, hr, hb⟩ := hrel
    have HB := Lib.hid hb
    clear hb
    by_cases hlt : k < l.length
    · have hki : (k : Int) < (l.length : Int) := by omega
      have hsuc : IntKind.i64.wrap ((k : Int) + 1) = ((k + 1 : Nat) : Int) := by simp [IntKind.wrap, IntKind.bits, IntKind.signed]; omega
      obtain ⟨gb, off, rfl, hgl, o0, o1, o2⟩ := HIT.out _ HB.out k hlt
      have hrd := hr.out
      rw [Ba.whys_drop hlt] at hrd
      obtain ⟨x, hx⟩ : ∃ x, x = l[k] := ⟨_, rfl⟩
      have hmem : x ∈ l := by rw [hx]; exact List.getElem_mem hlt
      rw [← hx] at o0 o1 o2 hrd
      have CC := Lib.hid (HCC.out (wr.alloc (.cells #[.int .u8 (x.k : Int), .string x.p, .string x.v] 52)) x (HB.out.alloc (Nat.le_trans (Nat.le_of_eq HN.out) HB.out.size) _) hmem)
      have B1 := Lib.hid (HB.out.alloc (Nat.le_trans (Nat.le_of_eq HN.out) HB.out.size) (.cells #[.int .u8 (x.k : Int), .string x.p, .string x.v] 52))
      have gn := heap_alloc_new wr (.cells #[.int .u8 (x.k : Int), .string x.p, .string x.v] 52)
      have x0 := Sm.cells_of gn 0 _ rfl
      have x1 := Sm.cells_of gn 1 _ rfl
      have x2 := Sm.cells_of gn 2 _ rfl
      obtain ⟨fx, hfx⟩ : ∃ n, n = f x := ⟨_, rfl⟩
      rw [← hfx] at CC hrd
      have HRD := Lib.hid hrd
      clear hx hr hrd hgl hmem hfx gn
      by_cases hf : fx = 0
      · have hfi : ((fx : Int) != 0) = false := by rw [hf]; rfl
        have hrd := HRD.out
        rw [if_pos hf] at hrd
        have HRE := Lib.hid hrd
        clear hrd HRD hf
        go_wp2_with (go_at_fn 74; refine CC.out.mono ?_; rintro e w3 ⟨rfl, b3⟩)
        go_roundw
        case rel => exact ⟨k + 1, rfl, hlt, HRE.out, B1.out.trans (b3.mono (Nat.le_trans (Nat.le_of_eq HN.out) B1.out.size))⟩
        case measure => simp [intOf]; omega
      · have hfi : ((fx : Int) != 0) = true := by rw [bne_iff_ne]; omega
        have hrd := HRD.out
        rw [if_neg hf] at hrd
        have HRE := Lib.hid hrd
        clear hrd HRD hf
        go_wp2_with (go_at_fn 74; refine CC.out.mono ?_; rintro e w3 ⟨rfl, b3⟩)
        go_ret
        exact ⟨by rw [HRE.out]; rfl, B1.out.trans (b3.mono (Nat.le_trans (Nat.le_of_eq HN.out) B1.out.size))⟩
    · have hki : ¬ (k : Int) < (l.length : Int) := by omega
      have hrd := hr.out
      rw [List.drop_of_length_le (by omega)] at hrd
      have HRE : Hid (R = 0) := hrd
      clear hr hrd
      go_wp2
      go_ret
      exact ⟨by rw [HRE.out]; try rfl, HB.out⟩
set_option maxRecDepth 100000 in
theorem baWhyNot_any (w : World) (fn : Nat) (cap : Array Value) :
    Calls Try.prog 61 #[.func (.func fn) #[] cap] w fun e w' => e = .returned (.func (.func 74) #[] #[.pointer (some ⟨w.heap.size, 0, none⟩)]) ∧ w' = w.alloc (.cells #[.func (.func fn) #[] cap] 97) := by
  go_enter Try.func61, Try.ntmps61
  go_wp2
  go_ret
  exact ⟨rfl, rfl⟩
end Go.Proofs.Ytehkbffbehlpnaa
