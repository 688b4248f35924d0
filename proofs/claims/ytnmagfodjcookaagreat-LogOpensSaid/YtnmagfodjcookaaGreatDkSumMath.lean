/-
  The math of sums (CRC-32): a sum is a shift register over the text's bits; what is closed is sound; a burst of at most 32 bits turns it.
-/
import Derived.WalkKit
namespace Go.Proofs.YtnmagfodjcookaaGreat
namespace Dk
def fold : Nat := 0xedb88320
/-- One bit falls out. -/
def step (x : Nat) : Nat := x / 2 ^^^ (if x % 2 = 1 then fold else 0)
def steps : Nat → Nat → Nat
  | 0, x => x
  | n + 1, x => steps n (step x)
def feed (x : Nat) (b : UInt8) : Nat := steps 8 (x ^^^ b.toNat)
def ones : Nat := 0xffffffff
def sum (l : List UInt8) : Nat := l.foldl feed ones ^^^ ones
/-- A number's four bytes, the lowest first. -/
def four (n : Nat) : List UInt8 := [UInt8.ofNat (n % 256), UInt8.ofNat (n / 256 % 256), UInt8.ofNat (n / 65536 % 256), UInt8.ofNat (n / 16777216 % 256)]
def closed (l : List UInt8) : List UInt8 := l ++ four (sum l)
/-- Bytes as one number, the lowest first. -/
def num : List UInt8 → Nat
  | [] => 0
  | b :: l => b.toNat ^^^ num l * 256
theorem step_bit (x i : Nat) : (step x).testBit i = (x.testBit (i + 1) ^^ (x.testBit 0 && fold.testBit i)) := by
  rw [step, Nat.testBit_xor, Nat.testBit_div_two, Nat.testBit_zero]
  by_cases h : x % 2 = 1
  · simp [h]
  · simp [h]
theorem step_xor (a b : Nat) : step (a ^^^ b) = step a ^^^ step b := by
  apply Nat.eq_of_testBit_eq
  intro i
  rw [Nat.testBit_xor, step_bit, step_bit, step_bit, Nat.testBit_xor, Nat.testBit_xor]
  cases a.testBit 0 <;> cases b.testBit 0 <;> cases a.testBit (i + 1) <;> cases b.testBit (i + 1) <;> cases fold.testBit i <;> rfl
theorem steps_xor : ∀ (n a b : Nat), steps n (a ^^^ b) = steps n a ^^^ steps n b
  | 0, _, _ => rfl
  | n + 1, a, b => by rw [steps, step_xor, steps_xor n]; rfl
theorem steps_add : ∀ (n m x : Nat), steps (n + m) x = steps m (steps n x)
  | 0, m, x => by rw [Nat.zero_add]; rfl
  | n + 1, m, x => by rw [show n + 1 + m = (n + m) + 1 by omega, steps, steps_add n m]; rfl
theorem step_double (y : Nat) : step (y * 2) = y := by
  rw [step, show y * 2 % 2 = 0 by omega, show y * 2 / 2 = y by omega]
  simp
theorem steps_shift : ∀ (n y : Nat), steps n (y * 2 ^ n) = y
  | 0, y => by simp [steps]
  | n + 1, y => by rw [steps, Nat.pow_succ, ← Nat.mul_assoc, step_double, steps_shift n y]
theorem steps_zero : ∀ n, steps n 0 = 0
  | 0 => rfl
  | n + 1 => by rw [steps, show step 0 = 0 by decide, steps_zero n]
theorem fold_lt : fold < 2 ^ 32 := by decide
theorem step_lt {x : Nat} (h : x < 2 ^ 32) : step x < 2 ^ 32 := by
  rw [step]
  apply Nat.xor_lt_two_pow
  · omega
  · split
    · exact fold_lt
    · decide
theorem step_pos {x : Nat} (h : x < 2 ^ 32) (h0 : x ≠ 0) : step x ≠ 0 := by
  intro e
  by_cases hb : x % 2 = 1
  · have h1 := step_bit x 31
    rw [e, Nat.zero_testBit, Nat.testBit_zero, Nat.testBit_lt_two_pow (show x < 2 ^ (31 + 1) from h)] at h1
    simp [hb, show fold.testBit 31 = true by decide] at h1
  · rw [step, if_neg hb, Nat.xor_zero] at e
    omega
theorem steps_pos : ∀ (n : Nat) {x : Nat}, x < 2 ^ 32 → x ≠ 0 → steps n x ≠ 0
  | 0, _, _, h0 => h0
  | n + 1, _, h, h0 => steps_pos n (step_lt h) (step_pos h h0)
theorem steps_lt : ∀ (n : Nat) {x : Nat}, x < 2 ^ 32 → steps n x < 2 ^ 32
  | 0, _, h => h
  | n + 1, _, h => steps_lt n (step_lt h)
theorem feeds : ∀ (l : List UInt8) (x : Nat), l.foldl feed x = steps (8 * l.length) (x ^^^ num l)
  | [], x => by simp [num, steps]
  | b :: l, x => by
    rw [List.foldl_cons, feeds l, List.length_cons, show 8 * (l.length + 1) = 8 + 8 * l.length by omega, steps_add, feed, num, ← Nat.xor_assoc, steps_xor 8 (x ^^^ b.toNat) (num l * 256), show num l * 256 = num l * 2 ^ 8 from rfl, steps_shift]
theorem feed_lt {x : Nat} (b : UInt8) (h : x < 2 ^ 32) : feed x b < 2 ^ 32 := steps_lt 8 (Nat.xor_lt_two_pow h (by have := b.toNat_lt; omega))
theorem foldl_lt : ∀ (l : List UInt8) {x : Nat}, x < 2 ^ 32 → l.foldl feed x < 2 ^ 32
  | [], _, h => h
  | b :: l, _, h => foldl_lt l (feed_lt b h)
theorem ones_lt : ones < 2 ^ 32 := by decide
theorem sum_lt (l : List UInt8) : sum l < 2 ^ 32 := Nat.xor_lt_two_pow (foldl_lt l ones_lt) ones_lt
theorem byte_low (a y : Nat) (h : a < 256) : a ^^^ y * 256 = a + y * 256 := by
  apply Nat.eq_of_testBit_eq
  intro i
  rw [Nat.testBit_xor, show y * 256 = y * 2 ^ 8 from rfl, Nat.testBit_mul_two_pow]
  have e := Nat.testBit_two_pow_mul_add (i := 8) (b := a) y (by omega) i
  rw [Nat.add_comm, Nat.mul_comm] at e
  rw [e]
  by_cases hi : i < 8
  · simp [hi, show ¬ (8 ≤ i) by omega]
  · have : a.testBit i = false := Nat.testBit_lt_two_pow (Nat.lt_of_lt_of_le h (Nat.pow_le_pow_right (n := 2) (by decide) (show 8 ≤ i by omega)))
    simp [hi, this, show 8 ≤ i by omega]
theorem num_cons (b : UInt8) (l : List UInt8) : num (b :: l) = b.toNat + num l * 256 := byte_low _ _ b.toNat_lt
theorem num_inj : ∀ {l m : List UInt8}, l.length = m.length → num l = num m → l = m
  | [], [], _, _ => rfl
  | [], _ :: _, h, _ => by simp at h
  | _ :: _, [], h, _ => by simp at h
  | a :: l, b :: m, h, e => by
    rw [num_cons, num_cons] at e
    have ha := a.toNat_lt
    have hb := b.toNat_lt
    have h1 : a.toNat = b.toNat := by omega
    rw [num_inj (by simpa using h) (show num l = num m by omega), UInt8.toNat_inj.1 h1]
theorem num_four {n : Nat} (h : n < 2 ^ 32) : num (four n) = n := by
  rw [four, num_cons, num_cons, num_cons, num_cons, num, UInt8.toNat_ofNat', UInt8.toNat_ofNat', UInt8.toNat_ofNat', UInt8.toNat_ofNat']
  omega
theorem four_length (n : Nat) : (four n).length = 4 := rfl
theorem closed_length (l : List UInt8) : (closed l).length = l.length + 4 := by simp [closed, four_length]
/-- What is closed leaves the register at one number. -/
def K : Nat := steps 32 ones
theorem closed_feeds (l : List UInt8) : (closed l).foldl feed ones = K := by
  rw [closed, List.foldl_append, feeds (four (sum l)), num_four (sum_lt l), sum, Nat.xor_comm (l.foldl feed ones) ones, ← Nat.xor_assoc, Nat.xor_comm (l.foldl feed ones) ones, Nat.xor_assoc, Nat.xor_self, Nat.xor_zero]
  rfl
/-- A burst: turned within 32 bits that follow one another, it is not what is closed. -/
theorem burst {s c : List UInt8} (hs : s.foldl feed ones = K) (hc : c.foldl feed ones = K) (hl : c.length = s.length) {p k : Nat} (hp : p < 2 ^ 32) (hk : k ≤ 8 * s.length) (e : num c = num s ^^^ p * 2 ^ k) : p = 0 := by
  rw [feeds] at hs hc
  rw [hl, e, ← Nat.xor_assoc, steps_xor, hs] at hc
  have h0 : steps (8 * s.length) (p * 2 ^ k) = 0 := by
    have := congrArg (fun x => K ^^^ x) hc
    simpa [← Nat.xor_assoc] using this
  rw [show 8 * s.length = k + (8 * s.length - k) by omega, steps_add, steps_shift] at h0
  exact Decidable.byContradiction fun hne => steps_pos _ hp hne h0
theorem num_append : ∀ (l m : List UInt8), num (l ++ m) = num l ^^^ num m * 2 ^ (8 * l.length)
  | [], m => by simp [num]
  | b :: l, m => by
    rw [List.cons_append, num, num_append l, num, List.length_cons, Nat.mul_comm _ 256, Nat.mul_comm _ 256]
    have d : ∀ x y : Nat, 256 * (x ^^^ y) = 256 * x ^^^ 256 * y := fun x y => by
      rw [show (256 : Nat) = 2 ^ 8 from rfl, Nat.mul_comm, Nat.mul_comm _ x, Nat.mul_comm _ y, ← Nat.shiftLeft_eq, ← Nat.shiftLeft_eq, ← Nat.shiftLeft_eq, Nat.shiftLeft_xor_distrib]
    rw [d, Nat.xor_assoc, show 8 * (l.length + 1) = 8 + 8 * l.length by omega, Nat.pow_add, Nat.mul_left_comm]
/-- One bit turned. -/
theorem num_turn {l : List UInt8} {j b : Nat} (hj : j < l.length) (hb : b < 8) : num (l.set j (l.getD j 0 ^^^ UInt8.ofNat (2 ^ b))) = num l ^^^ 2 ^ (8 * j + b) := by
  have h2 : 2 ^ b < 256 := Nat.pow_lt_pow_right (a := 2) (by decide) (show b < 8 from hb)
  have e1 : l = l.take j ++ (l.getD j 0 :: l.drop (j + 1)) := by
    rw [List.getD_eq_getElem?_getD, List.getElem?_eq_getElem hj]
    simp
  have e2 : l.set j (l.getD j 0 ^^^ UInt8.ofNat (2 ^ b)) = l.take j ++ ((l.getD j 0 ^^^ UInt8.ofNat (2 ^ b)) :: l.drop (j + 1)) := List.set_eq_take_append_cons_drop.trans (if_pos hj)
  have e3 : (l.take j).length = j := by rw [List.length_take]; omega
  rw [e2]
  conv => rhs; rw [e1]
  rw [num_append, num_append, e3, num, num, UInt8.toNat_xor, UInt8.toNat_ofNat_of_lt' h2, Nat.pow_add]
  have d : ∀ x y : Nat, (x ^^^ y) * 2 ^ (8 * j) = x * 2 ^ (8 * j) ^^^ y * 2 ^ (8 * j) := fun x y => by rw [← Nat.shiftLeft_eq, ← Nat.shiftLeft_eq, ← Nat.shiftLeft_eq, Nat.shiftLeft_xor_distrib]
  rw [d, d, d, Nat.mul_comm (2 ^ (8 * j)) (2 ^ b)]
  generalize 2 ^ b * 2 ^ (8 * j) = z
  generalize num (List.take j l) = u
  generalize (l.getD j 0).toNat * 2 ^ (8 * j) = v
  generalize num (List.drop (j + 1) l) * 256 * 2 ^ (8 * j) = t
  rw [Nat.xor_assoc v z t, Nat.xor_comm z t, ← Nat.xor_assoc v t z, ← Nat.xor_assoc u]
theorem closed_not_blank {l : List UInt8} (hl : l.length = 60) : closed l ≠ List.replicate 64 0 := by
  intro e
  have h1 : l = List.replicate 60 0 := by
    have := congrArg (List.take 60) e
    rw [closed, List.take_left' hl] at this
    rw [this]; rfl
  subst h1
  exact absurd e (by decide +kernel)
end Dk
end Go.Proofs.YtnmagfodjcookaaGreat
