/-
  What a row of acts does to a net.
-/
import Derived.Test.YtimbcmcmidnlfaaNtAwake
namespace Go.Proofs.Ytimbcmcmidnlfaa
open Go.RowKit
namespace Nt
/-- n posts, one behind the other. -/
def posts (M : Md) (p : Pk) : Nat → Md
  | 0 => M
  | n + 1 => (post (posts M p n) p).1
def times (x : Ac) : Nat := max 1 (x.y.toNat % 80)
def odd (x : Ac) : Bool := x.i.tmod 2 != 0
def doAct (M : Md) (x : Ac) : Md :=
  if x.a = 0 then posts M x.p (times x) else if x.a = 1 then (take M x.i).1 else if x.a = 2 then (lose M x.i).1 else if x.a = 3 then (dup M x.i).1 else if x.a = 4 then { M with parted := odd x } else M
def runs (M : Md) (l : List Ac) : Md := l.foldl doAct M
theorem runs_take (M : Md) {l : List Ac} {k : Nat} (h : k < l.length) : runs M (l.take (k + 1)) = doAct (runs M (l.take k)) l[k] := by
  rw [List.take_succ_eq_append_getElem h, runs, List.foldl_append]
  rfl
theorem doAct_0 {M : Md} {x : Ac} (h : x.a = 0) : doAct M x = posts M x.p (times x) := by simp [doAct, h]
theorem doAct_1 {M : Md} {x : Ac} (h : x.a = 1) : doAct M x = (take M x.i).1 := by simp [doAct, h]
theorem doAct_2 {M : Md} {x : Ac} (h : x.a = 2) : doAct M x = (lose M x.i).1 := by simp [doAct, h]
theorem doAct_3 {M : Md} {x : Ac} (h : x.a = 3) : doAct M x = (dup M x.i).1 := by simp [doAct, h]
theorem doAct_4 {M : Md} {x : Ac} (h : x.a = 4) : doAct M x = { M with parted := odd x } := by simp [doAct, h]
theorem doAct_else {M : Md} {x : Ac} (h : x.a ≠ 0 ∧ x.a ≠ 1 ∧ x.a ≠ 2 ∧ x.a ≠ 3 ∧ x.a ≠ 4) : doAct M x = M := by simp [doAct, h]
end Nt
set_option maxRecDepth 100000 in
set_option maxHeartbeats 4000000 in
theorem after8_some {B : Nat} {w0 w : World} (hb0 : Below B w0 w) (hB : B = w0.heap.size) (b off c : Nat) (l : List Nt.Ac) (hl : l.length ≤ 1099511627776) (hb : b < w0.heap.size) (hit : Nt.actsAt w0 b off l) (hs : ∀ a ∈ l, a.Ok) (hd : ∀ a ∈ l, a.p.d.size ≤ 1099511627776) :
    Calls Try.prog 24 #[.slice (some ⟨b, off, none⟩) l.length c] w fun e w' => ∃ r, e = .returned (.pointer (some ⟨r, 0, none⟩)) ∧ Nt.Own B w0 w' r Nt.Non (Nt.runs Nt.new l) := by
  have HIT := Lib.hid hit
  have HS := Lib.hid hs
  have HD := Lib.hid hd
  have HB := Lib.hid hB
  have HBL := Lib.hid hb
  clear hit hs hd hB hb
  go_enter Try.func24, Try.ntmps24
  go_wp2_with fail
  refine (ntNew_any hb0 (by rw [HB.out]; exact Nat.le_refl _)).mono ?_
  rintro e w1 ⟨rfl, o1, -⟩
  generalize w.heap.size = r at *
  have HO := Lib.hid o1
  clear hb0 o1
  go_wp2
  go_loopw [4, 5, 6] (fun s4 _ _ wr => ∃ k : Nat, s4 = .int .i64 k ∧ k ≤ l.length ∧ Nt.Own B w0 wr r Nt.Non (Nt.runs Nt.new (l.take k))) (fun s4 _ _ _ => l.length - (intOf s4).toNat)
  case atStart => exact ⟨0, rfl, Nat.zero_le _, HO.out⟩
  case round =>
    clear HO
    obtain ⟨k, rfl, hk, o⟩ := hrel
    by_cases hlt : k < l.length
    · have hlt1 : (k : Int) < l.length := by omega
      obtain ⟨c0, c1, c2, c3, c4, c5⟩ := (HIT.out k hlt).below o.below (by rw [HB.out]; exact HBL.out)
      have NEXT := Lib.hid (Nt.runs_take Nt.new hlt)
      have hok := HS.out _ (List.getElem_mem hlt)
      have hdl := HD.out _ (List.getElem_mem hlt)
      obtain ⟨x, hx⟩ : ∃ x, x = l[k] := ⟨_, rfl⟩
      rw [← hx] at c0 c1 c2 c3 c4 c5 NEXT hok hdl
      obtain ⟨M, hM⟩ : ∃ M, M = Nt.runs Nt.new (l.take k) := ⟨_, rfl⟩
      rw [← hM] at NEXT o
      have HOK := Lib.hid hok
      have hsuc : IntKind.i64.wrap ((k : Int) + 1) = ((k + 1 : Nat) : Int) := by simp [IntKind.wrap, IntKind.bits, IntKind.signed]; omega
      clear hx hok hM
      obtain ⟨N, hN⟩ : ∃ n, n = wr.heap.size := ⟨_, rfl⟩
      have b1 : Below wr.heap.size wr (wr.alloc (.cells x.cells.toArray 41)) := (Below.refl _ wr).alloc (Nat.le_refl _) _
      have o1 := o.low b1
      have g1 := heap_alloc_new wr (.cells x.cells.toArray 41)
      have hrN : r ≠ N := by have := o.lt; omega
      clear b1 o
      unfold Nt.Ac.cells at g1 o1
      go_upto_region 6 with (fail)
      rw [← hN] at g1 ⊢
      clear hN c0 c1 c2 c3 c4 c5
      generalize wr.alloc (.cells #[.int .i64 x.a, .int .i64 x.p.f, .int .i64 x.p.t, .string x.p.d, .int .i64 x.i, .int .u8 x.y.toNat] 41) = w2 at *
      have d0 := Sm.cells_of g1 0 _ rfl
      have d1 := Sm.cells_of g1 1 _ rfl
      have d2 := Sm.cells_of g1 2 _ rfl
      have d3 := Sm.cells_of g1 3 _ rfl
      have d4 := Sm.cells_of g1 4 _ rfl
      have d5 := Sm.cells_of g1 5 _ rfl
      by_cases e0 : x.a = 0
      · rw [e0] at d0
        have PO : Hid (∀ (wx : World) (M' : Nt.Md), Nt.Own B w0 wx r Nt.Non M' → Calls Try.prog 11 #[.pointer (some ⟨r, 0, none⟩), .agg #[.int .i64 x.p.f, .int .i64 x.p.t, .string x.p.d]] wx fun e w' => e = .returned (.int .i64 (Nt.post M' x.p).2) ∧ Nt.Step B w0 wx w' r Nt.Non (Nt.post M' x.p).1) := fun wx M' h => ntPost_any h x.p HOK.out.f hdl
        have O1 := Lib.hid o1
        have hy := x.y.toNat_lt
        have E0 := Lib.hid e0
        clear d1 d2 d3 d4 d5 o1 e0
        go_wp2
        go_loopw [6] (fun s6 wq => ∃ j : Nat, s6 = .int .i64 j ∧ j ≤ Nt.times x ∧ Nt.Own B w0 wq r Nt.Non (Nt.posts M x.p j) ∧ wq.heap[N]? = some (.cells #[.int .i64 x.a, .int .i64 x.p.f, .int .i64 x.p.t, .string x.p.d, .int .i64 x.i, .int .u8 x.y.toNat] 41 (0, 0))) (fun s6 _ => Nt.times x - (intOf s6).toNat)
        case atStart => exact ⟨0, rfl, Nat.zero_le _, O1.out, g1⟩
        case round =>
          obtain ⟨j, rfl, hj, oj, gj⟩ := hrel
          clear O1
          have q1 := Sm.cells_of gj 1 _ rfl
          have q2 := Sm.cells_of gj 2 _ rfl
          have q3 := Sm.cells_of gj 3 _ rfl
          have q5 := Sm.cells_of gj 5 _ rfl
          have htm : ((x.y.toNat : Nat) : Int).tmod 80 = ((x.y.toNat % 80 : Nat) : Int) := by rw [Int.tmod_eq_emod_of_nonneg (by omega)]; omega
          obtain ⟨t, ht⟩ : ∃ t, t = x.y.toNat % 80 := ⟨_, rfl⟩
          have htt : Nt.times x = max 1 t := by rw [ht]; rfl
          have ht80 : t < 80 := by omega
          rw [← ht] at htm
          have hcv : IntKind.i64.wrap (t : Int) = t := by simp [IntKind.wrap, IntKind.bits, IntKind.signed]; omega
          have hcu : IntKind.u8.wrap (t : Int) = t := by rw [IntKind.wrap_u8]; omega
          have hsj : IntKind.i64.wrap ((j : Int) + 1) = ((j + 1 : Nat) : Int) := by simp [IntKind.wrap, IntKind.bits, IntKind.signed]; omega
          have HTT := Lib.hid htt
          have HJ := Lib.hid hj
          clear ht htt hj
          by_cases hj0 : j = 0
          · subst hj0
            go_wp2_with fail
            refine (PO.out _ _ oj).mono ?_
            rintro e w3 ⟨rfl, s3⟩
            have O3 := Lib.hid s3.own
            have G3 := Lib.hid ((s3.turned.block N (Sm.lt_of gj) (fun e => hrN (Option.some.inj e).symm)).trans gj)
            clear s3 oj gj q1 q2 q3 q5
            go_wp2
            go_roundw
            case rel => exact ⟨1, rfl, by rw [HTT.out]; omega, O3.out, G3.out⟩
            case measure => have := HTT.out; simp [intOf]; omega
          · by_cases hjt : j < t
            · have hji : (j : Int) < (t : Int) := by omega
              have hj1 : ((j : Int) == 0) = false := beq_eq_false_iff_ne.2 (by omega)
              go_wp2_with fail
              refine (PO.out _ _ oj).mono ?_
              rintro e w3 ⟨rfl, s3⟩
              have O3 := Lib.hid s3.own
              have G3 := Lib.hid ((s3.turned.block N (Sm.lt_of gj) (fun e => hrN (Option.some.inj e).symm)).trans gj)
              clear s3 oj gj q1 q2 q3 q5
              go_wp2
              go_roundw
              case rel => exact ⟨j + 1, rfl, by rw [HTT.out]; omega, O3.out, G3.out⟩
              case measure => have := HTT.out; simp [intOf]; omega
            · have hji : ¬ (j : Int) < (t : Int) := by omega
              have hj1 : ((j : Int) == 0) = false := beq_eq_false_iff_ne.2 (by omega)
              have hje : j = Nt.times x := by have := HJ.out; have := HTT.out; omega
              rw [hje] at oj
              have O3 := Lib.hid oj
              clear oj gj q1 q2 q3 hje
              go_wp2
              go_roundw
              case rel => exact ⟨k + 1, rfl, hlt, by rw [NEXT.out, Nt.doAct_0 E0.out]; exact O3.out⟩
              case measure => simp [intOf]; omega
      · by_cases e1 : x.a = 1
        · rw [e1] at d0
          go_wp2_with fail
          refine (ntTake_any o1 x.i).mono ?_
          rintro e w3 ⟨rfl, s3⟩
          have O3 := Lib.hid s3.own
          clear s3 o1 d0 d1 d2 d3 d4 d5 g1
          go_wp2
          go_roundw
          case rel => exact ⟨k + 1, rfl, hlt, by rw [NEXT.out, Nt.doAct_1 e1]; exact O3.out⟩
          case measure => simp [intOf]; omega
        · by_cases e2 : x.a = 2
          · rw [e2] at d0
            go_wp2_with fail
            refine (ntLose_any o1 x.i).mono ?_
            rintro e w3 ⟨rfl, s3⟩
            have O3 := Lib.hid s3.own
            clear s3 o1 d0 d1 d2 d3 d4 d5 g1
            go_wp2
            go_roundw
            case rel => exact ⟨k + 1, rfl, hlt, by rw [NEXT.out, Nt.doAct_2 e2]; exact O3.out⟩
            case measure => simp [intOf]; omega
          · by_cases e3 : x.a = 3
            · rw [e3] at d0
              go_wp2_with fail
              refine (ntDup_any o1 x.i).mono ?_
              rintro e w3 ⟨rfl, s3⟩
              have O3 := Lib.hid s3.own
              clear s3 o1 d0 d1 d2 d3 d4 d5 g1
              go_wp2
              go_roundw
              case rel => exact ⟨k + 1, rfl, hlt, by rw [NEXT.out, Nt.doAct_3 e3]; exact O3.out⟩
              case measure => simp [intOf]; omega
            · by_cases e4 : x.a = 4
              · rw [e4] at d0
                have PA := Lib.hid (ntPart_any o1 (Nt.odd x))
                go_wp2_with fail
                refine PA.out.mono ?_
                rintro e w3 ⟨rfl, s3⟩
                have O3 := Lib.hid s3.own
                clear s3 o1 d0 d1 d2 d3 d4 d5 g1 PA
                go_wp2
                go_roundw
                case rel => exact ⟨k + 1, rfl, hlt, by rw [NEXT.out, Nt.doAct_4 e4]; exact O3.out⟩
                case measure => simp [intOf]; omega
              · have O3 := Lib.hid o1
                clear o1 d1 d2 d3 d4 d5 g1
                go_wp2
                go_roundw
                case rel => exact ⟨k + 1, rfl, hlt, by rw [NEXT.out, Nt.doAct_else ⟨e0, e1, e2, e3, e4⟩]; exact O3.out⟩
                case measure => simp [intOf]; omega
    · have hlt1 : ¬ (k : Int) < l.length := by omega
      have e : l.take k = l := List.take_of_length_le (by omega)
      rw [e] at o
      have O := Lib.hid o
      clear o e
      go_wp2
      go_ret
      exact ⟨r, rfl, O.out⟩
set_option maxRecDepth 100000 in
theorem after8_nil {B : Nat} {w0 w : World} (hb0 : Below B w0 w) (hB : B = w0.heap.size) (A : Option Addr) (c : Nat) : Calls Try.prog 24 #[.slice A 0 c] w fun e w' => ∃ r, e = .returned (.pointer (some ⟨r, 0, none⟩)) ∧ Nt.Own B w0 w' r Nt.Non Nt.new := by
  have HB := Lib.hid hB
  clear hB
  go_enter Try.func24, Try.ntmps24
  go_wp2_with fail
  refine (ntNew_any hb0 (by rw [HB.out]; exact Nat.le_refl _)).mono ?_
  rintro e w1 ⟨rfl, o1, -⟩
  go_wp2
  refine wp_loop_rounds 1 ?_
  rw [rounds_succ]
  go_wp2
  go_ret
  exact ⟨_, rfl, o1⟩
theorem after8_any {B : Nat} {w0 w : World} (hb0 : Below B w0 w) (hB : B = w0.heap.size) {A : Option Addr} {c : Nat} {l : List Nt.Ac} (hit : Nt.listAt w0 A l) (hs : ∀ a ∈ l, a.Ok) (hf : Nt.Fair l) :
    Calls Try.prog 24 #[.slice A l.length c] w fun e w' => ∃ r, e = .returned (.pointer (some ⟨r, 0, none⟩)) ∧ Nt.Own B w0 w' r Nt.Non (Nt.runs Nt.new l) := by
  rcases hit with rfl | ⟨b, off, rfl, hb, hit⟩
  · exact after8_nil hb0 hB A c
  · exact after8_some hb0 hB b off c l (by have := hf.1; omega) hb hit hs (fun a ha => by have := hf.data ha; omega)
end Go.Proofs.Ytimbcmcmidnlfaa
