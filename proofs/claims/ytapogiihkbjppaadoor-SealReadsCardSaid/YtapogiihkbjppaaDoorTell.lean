/-
  What the document's own reader does, said of the plain reader: Value, next, Zag, Num.
-/
import Derived.Test.YtapogiihkbjppaaDoorTellMath
import Derived.Test.YtapogiihkbjppaaDoorRef
import Derived.Deep.RegionHeld3
import Derived.Deep.QuietTactic
import Derived.BigQuiet
namespace Go.Proofs.YtapogiihkbjppaaDoor
open Go.RowKit Pk

theorem valF_cons (s : ByteArray) (j : Nat) (h : j < s.size) : valF (s.data.toList.drop j) = (128 * valF (s.data.toList.drop (j + 1)) + s[j].toNat % 128) % 2 ^ 64 := by
  rw [drop_at h]
  rfl

set_option maxHeartbeats 1000000 in
theorem value_any (s : ByteArray) (hs : s.size ≤ 281474976710656) (w : World) :
    Calls Tryd.prog 77 #[.string s] w fun e w' => e = .returned (.tuple #[.int .u64 (valF s.data.toList), .bool (enc (valF s.data.toList) == s.toList)]) ∧ Below w.heap.size w w' := by
  go_enter Tryd.func77, Tryd.ntmps77
  go_wp2
  go_loop [4, 5] (fun n i => ∃ (k : Nat) (z : Int), k ≤ s.size ∧ Hid (z = k - 1) ∧ i = .int .i64 z ∧ n = .int .u64 (valF (s.data.toList.drop k))) (fun _ i => (intOf i + 1).toNat)
  case atStart => exact ⟨s.size, (s.size : Int) - 1, Nat.le_refl _, rfl, rfl, by rw [List.drop_of_length_le (by simp)]; rfl⟩
  case round =>
    obtain ⟨k, z, hk, hz, rfl, rfl⟩ := hrel
    cases k with
    | zero =>
      have hz1 := hz.out
      obtain rfl : z = -1 := by simpa using hz1
      clear hz hz1
      rw [List.drop_zero] at *
      have hv := valF_lt s.data.toList
      go_wp2_with fail
      refine (rNum_any (valF s.data.toList) hv _).mono ?_
      rintro e w1 ⟨rfl, hb⟩
      go_wp2
      go_ret2
      exact ⟨rfl, hb⟩
    | succ j =>
      have hz1 := hz.out
      obtain rfl : z = (j : Int) := by omega
      clear hz hz1
      have hlt : j < s.size := by omega
      have hvc := Lib.hid (valF_cons s j hlt)
      have hv := valF_lt (s.data.toList.drop (j + 1))
      have hb := s[j].toNat_lt
      generalize valF (s.data.toList.drop (j + 1)) = v at *
      go_wp2
      go_round
      case rel =>
        refine ⟨j, (j : Int) - 1, by omega, rfl, rfl, ?_⟩
        rw [hvc.out]
        congr 1
        simp only [IntKind.wrap_u64]
        omega
      case measure => simp [intOf]

/-- The document's reader lies in block b. -/
def rinAt (w : World) (b : Nat) (r : Rd) : Prop := w.heap[b]? = some (.cells #[.string r.s, .int .i64 r.pos, .int .i64 r.f] 77 (0, 0))

theorem rinAt.low {w w' : World} {b : Nat} {r : Rd} (h : rinAt w b r) (k : Below w.heap.size w w') : rinAt w' b r := (k.block b (Array.getElem?_eq_some_iff.1 h).1).trans h
theorem rin_cells {w w' : World} {b : Nat} {r : Rd} (h : rinAt w b r) (k : Below w.heap.size w w') : w'.cell? ⟨b, 0, none⟩ = some (.string r.s) ∧ w'.cell? ⟨b, 1, none⟩ = some (.int .i64 r.pos) :=
  ⟨cells_of (h.low k) 0 _ rfl, cells_of (h.low k) 1 _ rfl⟩

theorem rest_get (r : Rd) (j : Nat) (h : r.pos + j < r.s.size) : ∃ hj : j < r.rest.length, r.rest[j] = r.s[r.pos + j] := by
  have hl := r.rest_length
  refine ⟨by omega, ?_⟩
  unfold Rd.rest
  rw [List.getElem_drop]
  rfl

set_option maxHeartbeats 4000000 in
set_option maxRecDepth 100000 in
theorem next_in {w : World} {b : Nat} {r : Rd} (hin : rinAt w b r) (hr : r.Ok) :
    Calls Tryd.prog 61 #[.pointer (some ⟨b, 0, none⟩)] w fun e w' => e = .returned (.tuple #[.int .u64 (dec 0 0 r.rest).1, .int .i64 (dec 0 0 r.rest).2.1, .int .i64 (dec 0 0 r.rest).2.2]) ∧ Below w.heap.size w w' := by
  have c0 := cells_of hin 0 _ rfl
  have c1 := cells_of hin 1 _ rfl
  have hl := r.rest_length
  have hp := hr.pos
  have hlim := hr.lim
  have HR := Lib.hid (rest_get r)
  have HL := Lib.hid hl
  have HIN := Lib.hid hin
  clear hl hin hr
  go_enter Tryd.func61, Tryd.ntmps61
  go_wp2
  go_loopw [5] (fun n wr => ∃ k : Nat, 1 ≤ k ∧ k ≤ 11 ∧ n = .int .i64 k ∧ k - 1 ≤ r.rest.length ∧ Hid (∀ j (hj : j < r.rest.length), j < k - 1 → 128 ≤ r.rest[j].toNat) ∧ ∃ m, wr = w.drewN m) (fun n _ => (11 - intOf n).toNat)
  case atStart => exact ⟨1, by omega, by omega, rfl, by omega, fun j hj hj2 => by omega, 0, rfl⟩
  case round =>
    obtain ⟨k, hk1, hk2, rfl, hkl, hall, m, rfl⟩ := hrel
    by_cases h11 : k = 11
    · subst h11
      have hd := Lib.hid (dec_many r.rest 0 0 (by omega) (by omega) (fun j hj h => hall.out j hj (by omega)))
      go_wp2_with fail
      go_ret3
      rw [hd.out]
      exact ⟨rfl, below_drewN (Below.refl _ w) m⟩
    · have hk10 : (k : Int) ≤ 10 := by omega
      by_cases hlen : r.s.size < r.pos + k
      · have hgt : (r.s.size : Int) < r.pos + k := by omega
        have hd := Lib.hid (dec_few r.rest 0 0 (fun c hc => by
          obtain ⟨j, hj, rfl⟩ := List.getElem_of_mem hc
          exact hall.out j hj (by have := HL.out; omega)) (by have := HL.out; omega))
        go_wp2_with fail
        go_quiet (fail)
        go_wp2_with fail
        go_ret3
        rw [hd.out]
        exact ⟨rfl, below_drewN (below_drewN (Below.refl _ w) m) _⟩
      · have hgt : ¬ ((r.s.size : Int) < r.pos + k) := by omega
        obtain ⟨hj, hbyte⟩ := HR.out (k - 1) (by omega)
        obtain ⟨q, hqd⟩ : ∃ q, q = r.pos + (k - 1) := ⟨_, rfl⟩
        have hix : q < r.s.size := by omega
        have hq : (r.pos : Int) + k - 1 = (q : Int) := by omega
        have hbyte2 : r.rest[k - 1] = r.s[q] := by rw [hbyte]; simp only [hqd]
        have HB := Lib.hid hbyte2
        have HQ := Lib.hid hqd
        have HQI := Lib.hid hq
        clear hbyte hbyte2 hqd hq
        by_cases hsm : r.s[q].toNat < 128
        · have hsm1 : (r.s[q].toNat : Int) < 128 := by omega
          have hdf := dec_first (l := r.rest) (n := k - 1) hj (by omega) (fun j hj2 hlt => hall.out j hj2 hlt) (fun h => by have := HB.out; rw [this]; exact hsm)
          rw [show k - 1 + 1 = k from by omega] at hdf
          have hex : r.s.extract r.pos (r.pos + k) = ⟨(r.rest.take k).toArray⟩ := by
            apply ByteArray.ext
            apply Array.ext'
            rw [Lib.extract_data, Nat.add_sub_cancel_left]
            rfl
          have g1 : (0 : Int) ≤ r.pos := by omega
          have g2 : (r.pos : Int) ≤ r.pos + k := by omega
          have g3 : (r.pos : Int) + k ≤ r.s.size := by omega
          have hsl := fun W => @run_slice_string Tryd.prog W 9 r.s .i64 .i64 r.pos (r.pos + k) Tryd.underlying9 g1 g2 g3
          rw [Int.toNat_natCast, show ((r.pos : Int) + k).toNat = r.pos + k from by omega, hex] at hsl
          have HV := Lib.hid (fun W => value_any ⟨(r.rest.take k).toArray⟩ (by show (r.rest.take k).toArray.size ≤ _; simp; omega) W)
          have HDF := Lib.hid hdf
          have HS := Lib.hid hsm1
          clear hex hdf hsm hsm1
          go_wp2_with fail
          go_quiet (fail)
          go_wp2_with fail
          have hq := HQI.out
          go_quiet (fail)
          clear hq
          have hsm1 := HS.out
          go_wp2_with fail
          clear hsm1
          have hwr : IntKind.i64.wrap ((r.pos : Int) + k) = (r.pos : Int) + k := IntWalk.i64_in _ (by omega)
          go_region_held3 (fun w' => w'.cell? ⟨b, 0, none⟩ = some (.string r.s) ∧ w'.cell? ⟨b, 1, none⟩ = some (.int .i64 r.pos))
            (first | exact ⟨c0, c1⟩ | exact HC.out | go_keep)
            ((first | (go_at_call 77; refine (HV.out _).mono ?_; rintro e w16 ⟨rfl, hs16⟩; have HC := Lib.hid (rin_cells (by exact HIN.out) hs16); have HS16 := Lib.hid hs16; clear hs16)))
          clear hwr hsl
          by_cases he : enc (valF (r.rest.take k)) = r.rest.take k
          · have hd := HDF.out
            rw [if_pos he] at hd
            have HD := Lib.hid hd
            have he2 : (enc (valF (r.rest.take k)) == r.rest.take k) = true := by rw [he]; simp
            clear hd he
            go_wp2_with fail
            go_ret3
            rw [HD.out]
            refine ⟨rfl, ?_⟩
            have g0 : ∀ n, Below w.heap.size w (w.drewN n) := below_drewN (Below.refl _ w)
            first
              | exact chainO (g0 _) (Nat.le_refl _) HS16.out
              | exact chainO (below_drewN (below_drewN (g0 m) _) _) (Nat.le_refl _) HS16.out
              | exact chainO (below_drewN (below_drewN (g0 m) _) _).drew (Nat.le_refl _) HS16.out
          · have hd := HDF.out
            rw [if_neg he] at hd
            have HD := Lib.hid hd
            have he2 : (enc (valF (r.rest.take k)) == r.rest.take k) = false := by simpa using he
            clear hd he
            go_wp2_with fail
            go_ret3
            rw [HD.out]
            refine ⟨rfl, ?_⟩
            have g0 : ∀ n, Below w.heap.size w (w.drewN n) := below_drewN (Below.refl _ w)
            first
              | exact chainO (g0 _) (Nat.le_refl _) HS16.out
              | exact chainO (below_drewN (below_drewN (g0 m) _) _) (Nat.le_refl _) HS16.out
              | exact chainO (below_drewN (below_drewN (g0 m) _) _).drew (Nat.le_refl _) HS16.out
        · have hsm1 : ¬ (r.s[q].toNat : Int) < 128 := by omega
          have HS := Lib.hid hsm1
          have HS0 := Lib.hid hsm
          clear hsm hsm1
          go_wp2_with fail
          go_quiet (fail)
          go_wp2_with fail
          have hq := HQI.out
          go_quiet (fail)
          clear hq
          have hsm1 := HS.out
          go_wp2_with fail
          clear hsm1
          go_roundw
          case rel =>
            refine ⟨k + 1, by omega, by omega, by go_num, by omega, ?_, m + _ + _, rfl⟩
            intro j hj2 hlt
            by_cases hjk : j < k - 1
            · exact hall.out j hj2 hjk
            · have hje : j = k - 1 := by omega
              subst hje
              have h1 := HB.out
              have h2 := HS0.out
              rw [h1]
              omega
          case measure => simp [intOf]; omega
end Go.Proofs.YtapogiihkbjppaaDoor
