/-
  What Num, Int, Text, Byte and String of a pack Out do.
-/
import Derived.Test.YtlndggbidmmodaaOut
import Derived.Test.YtlndggbidmmodaaItem
namespace Go.Proofs.Ytlndggbidmmodaa
open Go.RowKit Pk

theorem outAt.lt {w : World} {B o : Nat} {bs : List UInt8} (h : outAt w B o bs) : o < w.heap.size := by
  rcases h.2 with ⟨h, _⟩ | ⟨q, A, c, _, h, _⟩ <;> exact (Array.getElem?_eq_some_iff.1 h).1

/-- A world in which nothing of the Out's has turned. -/
theorem outAt.kept {w w' : World} {B o : Nat} {bs : List UInt8} (h : outAt w B o bs) (hk : Below w.heap.size w w') : outAt w' B o bs := by
  obtain ⟨hBo, ⟨ho, rfl⟩ | ⟨q, A, c, hBq, ho, hq, hown⟩⟩ := h
  · exact ⟨hBo, .inl ⟨(hk.block o (Array.getElem?_eq_some_iff.1 ho).1).trans ho, rfl⟩⟩
  · exact ⟨hBo, .inr ⟨q, A, c, hBq, (hk.block o (Array.getElem?_eq_some_iff.1 ho).1).trans ho, (hk.block q (Array.getElem?_eq_some_iff.1 hq).1).trans hq,
      hown.kept (row := none) ⟨hk.os, hk.tape, hk.output, hk.size, fun k hk' _ => hk.block k hk'⟩ (by cases (Value.slice A bs.length c).ownBlock <;> simp)⟩⟩

theorem or128 : ∀ m, m < 256 → m ||| 128 = m % 128 + 128 := by decide +kernel

/-- The digit that goes on. -/
theorem big_digit (k : Nat) : bits .or .u8 ((k : Int) % 256) 128 = ((UInt8.ofNat (k % 128 + 128)).toNat : Int) := by
  rw [ofNat_toNat (by omega)]
  have h := u8_or_nat (k % 256) 128 (by omega) (by decide)
  rw [or128 _ (by omega)] at h
  rw [show (k : Int) % 256 = ((k % 256 : Nat) : Int) from by omega, show k % 128 = k % 256 % 128 from by omega]
  exact h

/-- One byte that lies in a block of its own. -/
theorem put_one_fr (x : UInt8) {w : World} {B o : Nat} {bs : List UInt8} (hout : outAt w B o bs) (hB : B ≤ w.heap.size) (hroom : bs.length + 1 ≤ 140737488355328) (v : Int) (hv : v = x.toNat) :
    Calls Try.prog 61 #[.pointer (some ⟨o, 0, none⟩), .slice (some ⟨w.heap.size, 0, none⟩) 1 1] (w.alloc (.cells #[.int .u8 v] 5)) fun e w' =>
      e = .returned (.tuple #[]) ∧ outAt w' B o (bs ++ [x]) ∧ Below B w w' ∧ Fr w w' := by
  subst hv
  have hb : Below w.heap.size w (w.alloc (.cells #[.int .u8 (x.toNat : Int)] 5)) := (Below.refl _ w).alloc (Nat.le_refl _) _
  refine (put_any_fr (hout.kept hb) (by simp; omega) ⟨w.heap.size, 0, none⟩ (by have := hout.lt; exact fun e => by simp only at e; omega) 1 1 [x] rfl ?_ hroom).mono ?_
  · intro j u hu
    cases j with
    | zero =>
      simp [Lib.byteCells] at hu
      rw [← hu]
      exact cells_of (heap_alloc_new w _) 0 _ rfl
    | succ j => simp [Lib.byteCells] at hu
  · rintro e w' ⟨rfl, h1, h2, h3⟩
    exact ⟨rfl, h1, (hb.mono hB).trans h2, ((Fr.refl w).alloc _).trans h3⟩

set_option maxHeartbeats 1000000 in
theorem oNum_any_fr (n : Nat) (hn : n < 2 ^ 64) {w : World} {B o : Nat} {bs : List UInt8} (hout : outAt w B o bs) (hB : B ≤ w.heap.size) (hroom : bs.length + 10 ≤ 140737488355328) :
    Calls Try.prog 35 #[.pointer (some ⟨o, 0, none⟩), .int .u64 n] w fun e w' => e = .returned (.tuple #[]) ∧ outAt w' B o (bs ++ enc n) ∧ Below B w w' ∧ Fr w w' := by
  have hlen := enc_len hn
  go_enter Try.func35, Try.ntmps35
  go_wp2
  go_loopw [1] (fun x wr => ∃ (k : Nat) (done : List UInt8), k ≤ n ∧ x = .int .u64 k ∧ outAt wr B o (bs ++ done) ∧ Below B w wr ∧ Fr w wr ∧ B ≤ wr.heap.size ∧ Hid (done ++ enc k = enc n)) (fun x _ => (intOf x).toNat)
  case atStart => exact ⟨n, [], Nat.le_refl _, rfl, by simpa using hout, Below.refl _ _, Fr.refl _, hB, rfl⟩
  case round =>
    obtain ⟨k, done, hk, rfl, hout', hbe, hfe, hB', hd⟩ := hrel
    have hl : done.length + (enc k).length ≤ 10 := by
      have := congrArg List.length hd.out
      rw [List.length_append] at this
      omega
    by_cases hgt : 127 < k
    · have hgt' : (127 : Int) < k := by omega
      have hroom' : (bs ++ done).length + 1 ≤ 140737488355328 := by rw [List.length_append]; have := List.length_pos_iff.2 (enc_ne k); omega
      have hd2 := hd.out
      rw [enc_big hgt] at hd2
      have HD := Lib.hid hd2
      clear hd hd2 hl
      go_wp2_with fail
      refine (put_one_fr (UInt8.ofNat (k % 128 + 128)) hout' hB' hroom' _ (big_digit k)).mono ?_
      rintro e w1 ⟨rfl, h1, h2, h3⟩
      go_wp2
      go_roundw
      case rel => exact ⟨k / 128, done ++ [UInt8.ofNat (k % 128 + 128)], by omega, by go_num, by rw [← List.append_assoc]; exact h1, hbe.trans h2, hfe.trans h3, Nat.le_trans hB' h2.size, by rw [List.append_assoc]; exact HD.out⟩
      case measure => simp [intOf]; omega
    · have hgt' : ¬ (127 : Int) < k := by omega
      have hroom' : (bs ++ done).length + 1 ≤ 140737488355328 := by rw [List.length_append]; have := List.length_pos_iff.2 (enc_ne k); omega
      have hd2 := hd.out
      rw [enc_small hgt] at hd2
      have HD := Lib.hid hd2
      clear hd hd2 hl
      go_wp2_with fail
      refine (put_one_fr (UInt8.ofNat k) hout' hB' hroom' _ (by rw [ofNat_toNat (by omega)])).mono ?_
      rintro e w1 ⟨rfl, h1, h2, h3⟩
      go_wp2
      go_end0
      rw [← HD.out]
      exact ⟨rfl, by rw [← List.append_assoc]; exact h1, hbe.trans h2, hfe.trans h3⟩

theorem oNum_any (n : Nat) (hn : n < 2 ^ 64) {w : World} {B o : Nat} {bs : List UInt8} (hout : outAt w B o bs) (hB : B ≤ w.heap.size) (hroom : bs.length + 10 ≤ 140737488355328) :
    Calls Try.prog 35 #[.pointer (some ⟨o, 0, none⟩), .int .u64 n] w fun e w' => e = .returned (.tuple #[]) ∧ outAt w' B o (bs ++ enc n) ∧ Below B w w' :=
  (oNum_any_fr n hn hout hB hroom).mono fun _ _ ⟨h1, h2, h3, _⟩ => ⟨h1, h2, h3⟩

theorem oByte_any_fr (x : Int) (b : UInt8) (hx : x = b.toNat) {w : World} {B o : Nat} {bs : List UInt8} (hout : outAt w B o bs) (hB : B ≤ w.heap.size) (hroom : bs.length + 1 ≤ 140737488355328) :
    Calls Try.prog 62 #[.pointer (some ⟨o, 0, none⟩), .int .u8 x] w fun e w' => e = .returned (.tuple #[]) ∧ outAt w' B o (bs ++ [b]) ∧ Below B w w' ∧ Fr w w' := by
  have HX := Lib.hid hx
  clear hx
  go_enter Try.func62, Try.ntmps62
  go_wp2_with fail
  refine (put_one_fr b hout hB hroom _ HX.out).mono ?_
  rintro e w1 ⟨rfl, h1, h2, h3⟩
  go_wp2
  go_end0
  exact ⟨rfl, h1, h2, h3⟩

theorem oByte_any (x : Int) (b : UInt8) (hx : x = b.toNat) {w : World} {B o : Nat} {bs : List UInt8} (hout : outAt w B o bs) (hB : B ≤ w.heap.size) (hroom : bs.length + 1 ≤ 140737488355328) :
    Calls Try.prog 62 #[.pointer (some ⟨o, 0, none⟩), .int .u8 x] w fun e w' => e = .returned (.tuple #[]) ∧ outAt w' B o (bs ++ [b]) ∧ Below B w w' :=
  (oByte_any_fr x b hx hout hB hroom).mono fun _ _ ⟨h1, h2, h3, _⟩ => ⟨h1, h2, h3⟩

theorem u64_xor_zero (a : Nat) (ha : a < 18446744073709551616) : bits .xor .u64 (a : Int) 0 = (a : Int) := by
  have h := bits_xor_u64_nat a 0 ha (by decide)
  simpa using h
theorem u64_xor_ones (a : Nat) (ha : a < 18446744073709551616) : bits .xor .u64 (a : Int) 18446744073709551615 = 18446744073709551615 - (a : Int) := by
  show IntKind.u64.wrap ((BitVec.ofInt 64 (a : Int) ^^^ BitVec.ofInt 64 18446744073709551615).toNat : Int) = _
  have h1 : BitVec.ofInt 64 18446744073709551615 = BitVec.allOnes 64 := by decide
  have h2 : (BitVec.ofInt 64 (a : Int)).toNat = a := by
    rw [BitVec.ofInt_natCast, BitVec.toNat_ofNat]; exact Nat.mod_eq_of_lt (by omega)
  rw [h1, BitVec.xor_allOnes, BitVec.toNat_not, h2, IntKind.wrap_u64]
  omega
theorem zig_xor {i : Int} (h : -9223372036854775808 ≤ i ∧ i ≤ 9223372036854775807) :
    bits .xor .u64 (IntKind.u64.wrap (IntKind.u64.wrap i * 2)) (IntKind.u64.wrap (i / 9223372036854775808)) = (zig i : Int) := by
  simp only [IntKind.wrap_u64]
  unfold zig
  by_cases h0 : 0 ≤ i
  · rw [if_pos h0]
    rw [show i % 18446744073709551616 * 2 % 18446744073709551616 = ((2 * i).toNat : Int) from by omega, show i / 9223372036854775808 % 18446744073709551616 = 0 from by omega]
    exact u64_xor_zero _ (by omega)
  · rw [if_neg h0]
    rw [show i % 18446744073709551616 * 2 % 18446744073709551616 = ((2 * i + 18446744073709551616).toNat : Int) from by omega, show i / 9223372036854775808 % 18446744073709551616 = 18446744073709551615 from by omega]
    rw [u64_xor_ones _ (by omega)]
    omega

/-- A text's bytes, that lie in a block of their own. -/
theorem put_bytes_fr (s : ByteArray) (cap : Nat) {w : World} {B o : Nat} {bs : List UInt8} (hout : outAt w B o bs) (hB : B ≤ w.heap.size) (hroom : bs.length + s.size ≤ 140737488355328) :
    Calls Try.prog 61 #[.pointer (some ⟨o, 0, none⟩), .slice (some ⟨w.heap.size, 0, none⟩) s.size cap] (w.drew.alloc (.cells (bytesRow s cap) 5 ((bytesRow s cap).size, (bytesRow s cap).size + 1))) fun e w' =>
      e = .returned (.tuple #[]) ∧ outAt w' B o (bs ++ s.data.toList) ∧ Below B w w' ∧ Fr w w' := by
  have hb : Below w.heap.size w (w.drew.alloc (.cells (bytesRow s cap) 5 ((bytesRow s cap).size, (bytesRow s cap).size + 1))) := ((Below.refl _ w).drew).alloc (Nat.le_refl _) _
  refine (put_any_fr (hout.kept hb) (by simp; omega) ⟨w.heap.size, 0, none⟩ (by have := hout.lt; exact fun e => by simp only at e; omega) s.size cap s.data.toList (by simp) ?_ hroom).mono ?_
  · intro j u hu
    have hj : j < s.data.size := by
      have := (List.getElem?_eq_some_iff.1 hu).1
      simpa [Lib.byteCells] using this
    have h1 := bytesRow_at s cap j hj
    have h2 : u = .int .u8 (s.data[j].toNat : Int) := by
      simp [Lib.byteCells] at hu
      obtain ⟨x, hx, hv⟩ := hu
      rw [Array.getElem?_eq_getElem hj] at hx
      rw [← hv, ← Option.some.inj hx]
    rw [h2, ← h1]
    have hnew : (w.drew.alloc (.cells (bytesRow s cap) 5 ((bytesRow s cap).size, (bytesRow s cap).size + 1))).heap[w.heap.size]? = _ := heap_alloc_new w.drew _
    rw [Addr.add_lit]
    simp only [World.cell?, hnew, Nat.zero_add]
    rfl
  · rintro e w' ⟨rfl, h1, h2, h3⟩
    exact ⟨rfl, h1, (hb.mono hB).trans h2, (((Fr.refl w) : Fr w w.drew).alloc _).trans h3⟩

set_option maxHeartbeats 1000000 in
theorem oText_any_fr (s : ByteArray) {w : World} {B o : Nat} {bs : List UInt8} (hout : outAt w B o bs) (hB : B ≤ w.heap.size) (hroom : bs.length + 10 + s.size ≤ 140737488355328) :
    Calls Try.prog 63 #[.pointer (some ⟨o, 0, none⟩), .string s] w fun e w' => e = .returned (.tuple #[]) ∧ outAt w' B o (bs ++ (enc s.size ++ s.data.toList)) ∧ Below B w w' ∧ Fr w w' := by
  go_enter Try.func63, Try.ntmps63
  go_wp2_with fail
  refine (oNum_any_fr s.size (by omega) hout hB (by omega)).mono ?_
  rintro e w1 ⟨rfl, h1, h2, f2⟩
  have hcv := run_bytes_of_string (P := Try.prog) w1 9 71 5 s Try.underlying9 Try.underlying71 Try.underlying5
  go_wp2_with fail
  clear hcv
  refine (put_bytes_fr s _ h1 (Nat.le_trans hB h2.size) (by rw [List.length_append]; have := enc_len (n := s.size) (by omega); omega)).mono ?_
  rintro e w2 ⟨rfl, h3, h4, f4⟩
  go_wp2
  go_end0
  exact ⟨rfl, by rw [← List.append_assoc]; exact h3, h2.trans h4, f2.trans f4⟩

theorem oText_any (s : ByteArray) {w : World} {B o : Nat} {bs : List UInt8} (hout : outAt w B o bs) (hB : B ≤ w.heap.size) (hroom : bs.length + 10 + s.size ≤ 140737488355328) :
    Calls Try.prog 63 #[.pointer (some ⟨o, 0, none⟩), .string s] w fun e w' => e = .returned (.tuple #[]) ∧ outAt w' B o (bs ++ (enc s.size ++ s.data.toList)) ∧ Below B w w' :=
  (oText_any_fr s hout hB hroom).mono fun _ _ ⟨h1, h2, h3, _⟩ => ⟨h1, h2, h3⟩

/-- The bytes of a row that is owned, as a text. -/
theorem out_back {w : World} {B : Nat} {A : Option Addr} {c : Nat} {bs : List UInt8} (hown : w.ownsRow B 5 1 (.slice A bs.length c) bs.length (Lib.byteCells bs)) (n : Nat) (c' : Nat) :
    (convert 71 9 (.slice A bs.length c')).run Try.prog (w.drewN n) = .ok (.string ⟨bs.toArray⟩) (w.drewN n) := by
  rcases hown.2 with ⟨hv, hn⟩ | ⟨g, cap, cur, hv, hBg, hh, hn, hcap, hcs, htk⟩
  · simp only [Value.slice.injEq] at hv
    obtain ⟨rfl, _, _⟩ := hv
    have hb : bs = [] := List.eq_nil_of_length_eq_zero hn
    subst hb
    have h := run_convert_bytes_nil (P := Try.prog) (w := w.drewN n) 71 5 Try.underlying71 Try.underlying5 0 c' 9 Try.underlying9
    exact h
  · simp only [Value.slice.injEq] at hv
    obtain ⟨rfl, _, rfl⟩ := hv
    refine run_convert_bytes_back (w.drewN n) 71 9 5 _ c' bs Try.underlying71 Try.underlying5 Try.underlying9 ?_
    intro j hj
    exact hown.cells (g := g) rfl j _ (by simp [Lib.byteCells, hj])

set_option maxHeartbeats 1000000 in
theorem oString_any {w : World} {B o : Nat} {bs : List UInt8} (hout : outAt w B o bs) (hlim : bs.length ≤ 140737488355328) :
    Calls Try.prog 37 #[.pointer (some ⟨o, 0, none⟩)] w fun e w' => e = .returned (.string ⟨bs.toArray⟩) ∧ ∃ n, w' = w.drewN n := by
  obtain ⟨hBo, ⟨ho, rfl⟩ | ⟨q, A, c, hBq, ho, hq, hown⟩⟩ := hout
  · have o0 := cells_of ho 0 _ rfl
    clear ho
    go_enter Try.func37, Try.ntmps37
    go_wp2
    go_ret
    exact ⟨rfl, 0, rfl⟩
  · have o0 := cells_of ho 0 _ rfl
    have o1 := cells_of ho 1 _ rfl
    have q0 := cells_of hq 0 _ rfl
    go_enter Try.func37, Try.ntmps37
    have hcv := out_back hown
    have hcap : bs.length ≤ c := by
      rcases hown.2 with ⟨hv, hn⟩ | ⟨g, cap, cur, hv, hBg, hh, hn, hcap, hcs, htk⟩
      · omega
      · simp only [Value.slice.injEq] at hv
        omega
    have hcap1 : (bs.length : Int) ≤ (c : Int) := by omega
    have hcap0 : (0 : Int) ≤ (bs.length : Int) := by omega
    go_wp2
    go_quiet (fail)
    go_wp2
    go_ret
    exact ⟨rfl, _, rfl⟩

theorem oNum_nil (n : Nat) (w : World) : Calls Try.prog 35 #[.pointer none, .int .u64 n] w fun e w' => e = .returned (.tuple #[]) ∧ Below w.heap.size w w' := by
  go_enter Try.func35, Try.ntmps35
  go_wp2
  go_loopw [1] (fun x wr => ∃ (k : Nat), x = .int .u64 k ∧ Below w.heap.size w wr) (fun x _ => (intOf x).toNat)
  case atStart => exact ⟨n, rfl, Below.refl _ _⟩
  case round =>
    obtain ⟨k, rfl, hbe⟩ := hrel
    by_cases hgt : 127 < k
    · have hgt' : (127 : Int) < k := by omega
      go_wp2_with fail
      refine (put_nil _ _ _ _).mono ?_
      rintro e w1 ⟨rfl, rfl⟩
      go_wp2
      go_roundw
      case rel => exact ⟨k / 128, by go_num, hbe.alloc hbe.size _⟩
      case measure => simp [intOf]; omega
    · have hgt' : ¬ (127 : Int) < k := by omega
      go_wp2_with fail
      refine (put_nil _ _ _ _).mono ?_
      rintro e w1 ⟨rfl, rfl⟩
      go_wp2
      go_end0
      exact ⟨rfl, hbe.alloc hbe.size _⟩

theorem oByte_nil (x : Int) (w : World) : Calls Try.prog 62 #[.pointer none, .int .u8 x] w fun e w' => e = .returned (.tuple #[]) ∧ Below w.heap.size w w' := by
  go_enter Try.func62, Try.ntmps62
  go_wp2_with fail
  refine (put_nil _ _ _ _).mono ?_
  rintro e w1 ⟨rfl, rfl⟩
  go_wp2
  go_end0
  exact ⟨rfl, (Below.refl _ w).alloc (Nat.le_refl _) _⟩

theorem oText_nil (s : ByteArray) (hs : s.size ≤ 140737488355328) (w : World) : Calls Try.prog 63 #[.pointer none, .string s] w fun e w' => e = .returned (.tuple #[]) ∧ Below w.heap.size w w' := by
  go_enter Try.func63, Try.ntmps63
  go_wp2_with fail
  refine (oNum_nil _ _).mono ?_
  rintro e w1 ⟨rfl, h1⟩
  have hcv := run_bytes_of_string (P := Try.prog) w1 9 71 5 s Try.underlying9 Try.underlying71 Try.underlying5
  go_wp2_with fail
  clear hcv
  refine (put_nil _ _ _ _).mono ?_
  rintro e w2 ⟨rfl, rfl⟩
  go_wp2
  go_end0
  exact ⟨rfl, (h1.drew).alloc h1.size _⟩

theorem oString_nil (w : World) : Calls Try.prog 37 #[.pointer none] w fun e w' => e = .returned (.string ⟨#[]⟩) ∧ w = w' := by
  go_enter Try.func37, Try.ntmps37
  go_wp2
  go_ret
  exact ⟨rfl, rfl⟩
end Go.Proofs.Ytlndggbidmmodaa
