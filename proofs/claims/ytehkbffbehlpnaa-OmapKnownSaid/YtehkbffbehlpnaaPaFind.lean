/-
  path's find: where the first mount of a name stands.
-/
import Derived.Test.YtehkbffbehlpnaaPaMounts
import Derived.Shelf.Abstract
namespace Go.Proofs.Ytehkbffbehlpnaa
open Go.RowKit
namespace Pa
/-- Is it that name? -/
def same (a b : ByteArray) : Bool := a.toList == b.toList
theorem same_iff {a b : ByteArray} : same a b = true ↔ a = b := by
  unfold same
  rw [Lib.toList_data, Lib.toList_data]
  constructor
  · intro h
    have h' : a.data.toList = b.data.toList := by simpa using h
    exact ByteArray.ext (Array.ext' h')
  · intro h; subst h; simp
/-- Where the first mount of a name stands among those from the i-th on, or -1. -/
def pos (n : ByteArray) : List Mo → Int
  | [] => -1
  | m :: l => if same m.n n then 0 else if pos n l < 0 then -1 else pos n l + 1
/-- The first mount of a name. -/
def first (n : ByteArray) : List Mo → Option Mo
  | [] => none
  | m :: l => if same m.n n then some m else first n l
theorem pos_none {n : ByteArray} : ∀ {l : List Mo}, (∀ j (h : j < l.length), same l[j].n n = false) → pos n l = -1
  | [], _ => rfl
  | m :: l, h => by
    have h0 := h 0 (by simp)
    have ih := pos_none (l := l) fun j hj => h (j + 1) (by simp; omega)
    simp only [List.getElem_cons_zero] at h0
    rw [pos, h0, ih]
    rfl
theorem pos_at {n : ByteArray} : ∀ {l : List Mo} {i : Nat} (hi : i < l.length), same l[i].n n = true → (∀ j (h : j < l.length), j < i → same l[j].n n = false) → pos n l = i
  | [], _, h, _, _ => absurd h (Nat.not_lt_zero _)
  | m :: l, 0, _, h, _ => by
    simp only [List.getElem_cons_zero] at h
    rw [pos, h]
    rfl
  | m :: l, i + 1, hi, h, hn => by
    have h0 := hn 0 (by simp) (by omega)
    simp only [List.getElem_cons_zero] at h0
    have ih := pos_at (l := l) (i := i) (by simpa using hi) (by simpa using h) (fun j h1 h2 => hn (j + 1) (by simp; omega) (by omega))
    rw [pos, h0, ih]
    simp
    omega
theorem first_none {n : ByteArray} : ∀ {l : List Mo}, (∀ j (h : j < l.length), same l[j].n n = false) → first n l = none
  | [], _ => rfl
  | m :: l, h => by
    have h0 := h 0 (by simp)
    have ih := first_none (l := l) fun j hj => h (j + 1) (by simp; omega)
    simp only [List.getElem_cons_zero] at h0
    rw [first, h0, ih]
    rfl
theorem first_at {n : ByteArray} : ∀ {l : List Mo} {i : Nat} (hi : i < l.length), same l[i].n n = true → (∀ j (h : j < l.length), j < i → same l[j].n n = false) → first n l = some l[i]
  | [], _, h, _, _ => absurd h (Nat.not_lt_zero _)
  | m :: l, 0, _, h, _ => by
    simp only [List.getElem_cons_zero] at h
    rw [first, h]
    rfl
  | m :: l, i + 1, hi, h, hn => by
    have h0 := hn 0 (by simp) (by omega)
    simp only [List.getElem_cons_zero] at h0
    have ih := first_at (l := l) (i := i) (by simpa using hi) (by simpa using h) (fun j h1 h2 => hn (j + 1) (by simp; omega) (by omega))
    rw [first, h0, ih]
    simp
/-- There is none of the name, or a first one. -/
theorem pos_cases (n : ByteArray) (l : List Mo) : (pos n l = -1 ∧ first n l = none ∧ ∀ j (h : j < l.length), same l[j].n n = false) ∨ (∃ i : Nat, ∃ h : i < l.length, pos n l = i ∧ first n l = some l[i] ∧ same l[i].n n = true ∧ ∀ j (h : j < l.length), j < i → same l[j].n n = false) := by
  by_cases hall : ∀ j (h : j < l.length), same l[j].n n = false
  · exact .inl ⟨pos_none hall, first_none hall, hall⟩
  · right
    have hex : ∃ i, ∃ h : i < l.length, same l[i].n n = true := by
      apply Classical.byContradiction
      intro hne
      apply hall
      intro j h
      cases hs : same l[j].n n
      · rfl
      · exact absurd ⟨j, h, hs⟩ hne
    have hmin : ∀ k, (∃ i, ∃ h : i < l.length, i ≤ k ∧ same l[i].n n = true) → ∃ i, ∃ h : i < l.length, same l[i].n n = true ∧ ∀ j (h : j < l.length), j < i → same l[j].n n = false := by
      intro k
      induction k with
      | zero =>
        rintro ⟨i, h, hi, hs⟩
        exact ⟨i, h, hs, fun j _ hj => by omega⟩
      | succ k ih =>
        rintro ⟨i, h, hi, hs⟩
        by_cases hk : ∃ i, ∃ h : i < l.length, i ≤ k ∧ same l[i].n n = true
        · exact ih hk
        · refine ⟨i, h, hs, fun j hj hji => ?_⟩
          cases hq : same l[j].n n
          · rfl
          · exact absurd ⟨j, hj, by omega, hq⟩ hk
    obtain ⟨i, h, hs⟩ := hex
    obtain ⟨i, h, hs, hn⟩ := hmin i ⟨i, h, Nat.le_refl _, hs⟩
    exact ⟨i, h, pos_at h hs hn, first_at h hs hn, hs, hn⟩
end Pa
set_option maxRecDepth 100000 in
set_option maxHeartbeats 1000000 in
theorem paFind1_any (w : World) (m : Pa.Mo) (g : Nat) (n : ByteArray) (hg : w.cell? ⟨g, 0, none⟩ = some (.string n)) (hl : g < w.heap.size) :
    Calls Try.prog 86 #[.agg m.cells.toArray, .pointer (some ⟨g, 0, none⟩)] w fun e w' => e = .returned (.bool (Pa.same m.n n)) ∧ Below w.heap.size w w' := by
  have gn := heap_alloc_new w (.cells m.cells.toArray 89)
  have c0 : (w.alloc (.cells m.cells.toArray 89)).cell? ⟨w.heap.size, 0, none⟩ = some (.string m.n) := Sm.cells_of gn 0 _ rfl
  have b1 : Below w.heap.size w (w.alloc (.cells m.cells.toArray 89)) := (Below.refl _ w).alloc (Nat.le_refl _) _
  have c1 : (w.alloc (.cells m.cells.toArray 89)).cell? ⟨g, 0, none⟩ = some (.string n) := (b1.cell (p := ⟨g, 0, none⟩) hl).trans hg
  obtain ⟨q, hq⟩ : ∃ q, q = Pa.same m.n n := ⟨_, rfl⟩
  rw [← hq]
  have hq2 : (m.n.toList == n.toList) = q := hq.symm
  clear hq gn hg
  go_enter Try.func86, Try.ntmps86
  go_wp2
  go_ret
  exact ⟨rfl, b1⟩
set_option maxRecDepth 100000 in
set_option maxHeartbeats 1000000 in
theorem paIndexFunc_some (w : World) (b off c : Nat) (l : List Pa.Mo) (n : ByteArray) (g : Nat) (hg : w.cell? ⟨g, 0, none⟩ = some (.string n)) (hgl : g < w.heap.size) (hb : b < w.heap.size) (hit : Pa.mosAt w b off l) (hl : l.length ≤ 9223372036854775807) :
    Calls Try.prog 85 #[.slice (some ⟨b, off, none⟩) l.length c, .func (.func 86) #[] #[.pointer (some ⟨g, 0, none⟩)]] w fun e w' => e = .returned (.int .i64 (Pa.pos n l)) ∧ Below w.heap.size w w' := by
  have HG := Lib.hid hg
  have HIT := Lib.hid hit
  clear hg hit
  have eg : ∀ args w, (callFunc 86 args).run Try.prog w = .ok (.enter 86 args) w := Go.Proofs.enters_of Try.func86 (by kernel_rfl) rfl
  go_enter Try.func85, Try.ntmps85
  go_wp2
  go_loopw [8] (fun s8 wr => ∃ i : Nat, s8 = .int .i64 i ∧ i ≤ l.length ∧ (∀ j (h : j < l.length), j < i → Pa.same l[j].n n = false) ∧ Below w.heap.size w wr) (fun s8 _ => l.length - (intOf s8).toNat)
  case atStart => exact ⟨0, rfl, Nat.zero_le _, fun j _ h => absurd h (Nat.not_lt_zero _), Below.refl _ w⟩
  case round =>
    obtain ⟨i, rfl, hi, hall, bw⟩ := hrel
    have HA := Lib.hid hall
    clear hall
    by_cases hil : i < l.length
    · have hii : (i : Int) < l.length := by omega
      have hsuc : IntKind.i64.wrap ((i : Int) + 1) = ((i + 1 : Nat) : Int) := by simp [IntKind.wrap, IntKind.bits, IntKind.signed]; omega
      obtain ⟨c0, c1⟩ := HIT.out.below bw hb i hil
      have CF := Lib.hid (paFind1_any wr l[i] g n ((bw.cell (p := ⟨g, 0, none⟩) hgl).trans HG.out) (Nat.lt_of_lt_of_le hgl bw.size))
      have hac : l[i].cells.toArray = #[.string l[i].n, .bool l[i].s] := rfl
      rw [hac] at CF
      clear hac
      obtain ⟨xn, hxn⟩ : ∃ x, x = l[i].n := ⟨_, rfl⟩
      obtain ⟨xs, hxs⟩ : ∃ x, x = l[i].s := ⟨_, rfl⟩
      rw [← hxn] at c0 CF
      rw [← hxs] at c1 CF
      have HX := Lib.hid hxn
      clear hxn hxs
      cases hs : Pa.same xn n
      · rw [hs] at CF
        have hnext : ∀ j (h : j < l.length), j < i + 1 → Pa.same l[j].n n = false := fun j h hj => by
          by_cases e : j = i
          · subst e; rw [← HX.out]; exact hs
          · exact HA.out j h (by omega)
        have HN := Lib.hid hnext
        clear hnext hs
        go_wp2_with (go_at_fn 86; refine (CF.out).mono ?_; rintro e w2 ⟨rfl, b2⟩)
        go_roundw
        case rel => exact ⟨i + 1, rfl, by omega, HN.out, Sm.low_low bw (Nat.le_refl _) b2⟩
        case measure => simp only [intOf]; omega
      · rw [hs] at CF
        have hp := Lib.hid (Pa.pos_at hil (by rw [← HX.out]; exact hs) HA.out)
        clear hs
        go_wp2_with (go_at_fn 86; refine (CF.out).mono ?_; rintro e w2 ⟨rfl, b2⟩)
        go_ret
        exact ⟨by rw [hp.out]; rfl, Sm.low_low bw (Nat.le_refl _) b2⟩
    · have hii : ¬ (i : Int) < l.length := by omega
      have hp := Lib.hid (Pa.pos_none (n := n) (l := l) fun j h => HA.out j h (by omega))
      go_wp2
      go_ret
      exact ⟨by rw [hp.out]; rfl, bw⟩
set_option maxRecDepth 100000 in
theorem paIndexFunc_none (w : World) (A : Option Addr) (c : Nat) (n : ByteArray) (F : Value) :
    Calls Try.prog 85 #[.slice A 0 c, F] w fun e w' => e = .returned (.int .i64 (Pa.pos n [])) ∧ Below w.heap.size w w' := by
  go_enter Try.func85, Try.ntmps85
  go_wp2
  refine wp_loop_rounds 1 ?_
  rw [rounds_succ]
  go_wp2
  go_ret
  exact ⟨rfl, Below.refl _ w⟩
set_option maxRecDepth 100000 in
set_option maxHeartbeats 1000000 in
theorem paFind_any {w : World} {A : Option Addr} {l : List Pa.Mo} (c : Nat) (hit : Pa.listAt w A l) (hl : l.length ≤ 9223372036854775807) (n : ByteArray) :
    Calls Try.prog 79 #[.slice A l.length c, .string n] w fun e w' => e = .returned (.int .i64 (Pa.pos n l)) ∧ Below w.heap.size w w' := by
  have b1 : Below w.heap.size w (w.alloc (.cells #[.string n] 9)) := (Below.refl _ w).alloc (Nat.le_refl _) _
  have gn := heap_alloc_new w (.cells #[.string n] 9)
  have hsz : w.heap.size < (w.alloc (.cells #[.string n] 9)).heap.size := Sm.lt_of gn
  have CI : Hid (Calls Try.prog 85 #[.slice A l.length c, .func (.func 86) #[] #[.pointer (some ⟨w.heap.size, 0, none⟩)]] (w.alloc (.cells #[.string n] 9)) fun e w' => e = .returned (.int .i64 (Pa.pos n l)) ∧ Below (w.alloc (.cells #[.string n] 9)).heap.size (w.alloc (.cells #[.string n] 9)) w') := by
    rcases hit.below b1 with rfl | ⟨b, off, rfl, hb, hm⟩
    · exact paIndexFunc_none _ A c n _
    · exact paIndexFunc_some _ b off c l n w.heap.size (Sm.cells_of gn 0 _ rfl) hsz hb hm hl
  clear hit gn hsz
  go_enter Try.func79, Try.ntmps79
  go_wp2_with (go_at_call 85; refine (CI.out).mono ?_; rintro e w2 ⟨rfl, b2⟩)
  go_ret
  exact ⟨rfl, Sm.low_low b1 (Nat.le_refl _) b2⟩
end Go.Proofs.Ytehkbffbehlpnaa
