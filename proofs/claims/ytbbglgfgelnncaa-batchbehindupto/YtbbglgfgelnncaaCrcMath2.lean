/- Numbers of 32 bits as polynomials: a product with a power of x is a number halved so many times. Our own definitions; no statement of the seat is proved here. -/
import Derived.Test.YtbbglgfgelnncaaCrcMath
namespace Go.Proofs.Ytbbglgfgelnncaa

/-- 1, as a polynomial, halved m times. -/
def pw (m : Nat) : Nat := hvs m 2147483648
theorem pw_lt (m : Nat) : pw m < 4294967296 := hvs_lt (by decide)
theorem pw_hvs (m n : Nat) : hvs n (pw m) = pw (m + n) := (hvs_add m n _).symm
theorem pw_small {i : Nat} (h : i ≤ 31) : pw i = 2 ^ (31 - i) := by
  have h1 := hvs_two_pow i (2 ^ (31 - i))
  rw [← Nat.pow_add, show i + (31 - i) = 31 by omega] at h1
  exact h1
theorem pw_shift {m i : Nat} (h : i ≤ 31) : pw (m + i) = hvs m (2 ^ (31 - i)) := by
  rw [← pw_small h, pw_hvs, Nat.add_comm]

/-- What the first i rounds have met of a number. -/
def topOf (a i : Nat) : Nat := a / 2 ^ (32 - i) * 2 ^ (32 - i)
/-- What they have left of it. -/
def lowOf (a i : Nat) : Nat := a * 2 ^ i % 4294967296

theorem low_zero {a : Nat} (h : a < 4294967296) : lowOf a 0 = a := by unfold lowOf; rw [Nat.pow_zero, Nat.mul_one, Nat.mod_eq_of_lt h]
theorem top_zero {a : Nat} (h : a < 4294967296) : topOf a 0 = 0 := by
  unfold topOf
  rw [Nat.div_eq_of_lt (by simpa using h), Nat.zero_mul]
theorem low_succ (a i : Nat) : lowOf a (i + 1) = lowOf a i * 2 % 4294967296 := by
  unfold lowOf
  rw [Nat.pow_succ, ← Nat.mul_assoc, Nat.mod_mul_mod]
theorem low_lt (a i : Nat) : lowOf a i < 4294967296 := Nat.mod_lt _ (by decide)
theorem low_eq {a i : Nat} (hi : i ≤ 32) : lowOf a i = a % 2 ^ (32 - i) * 2 ^ i := by
  unfold lowOf
  have e : 4294967296 = 2 ^ (32 - i) * 2 ^ i := by rw [← Nat.pow_add, show 32 - i + i = 32 by omega]
  rw [e, Nat.mul_mod_mul_right]
theorem low_32 (a : Nat) : lowOf a 32 = 0 := by rw [low_eq (Nat.le_refl _)]; simp [Nat.mod_one]
theorem top_done {a i : Nat} (hi : i ≤ 32) (h : lowOf a i = 0) : topOf a i = a := by
  rw [low_eq hi] at h
  have h2 : 0 < 2 ^ i := Nat.two_pow_pos i
  have h1 : a % 2 ^ (32 - i) = 0 := by
    rcases Nat.mul_eq_zero.1 h with h | h
    · exact h
    · omega
  unfold topOf
  have := Nat.div_add_mod a (2 ^ (32 - i))
  rw [h1, Nat.add_zero, Nat.mul_comm] at this
  exact this

/-- The bit that the round i meets. -/
theorem low_bit {a i : Nat} (hi : i < 32) : lowOf a i / 2147483648 = a / 2 ^ (31 - i) % 2 := by
  rw [low_eq (by omega)]
  have e : 2147483648 = 2 ^ (31 - i) * 2 ^ i := by rw [← Nat.pow_add, show 31 - i + i = 31 by omega]
  rw [e, Nat.mul_div_mul_right _ _ (Nat.two_pow_pos i), show 32 - i = (31 - i) + 1 by omega, Nat.pow_succ, Nat.mod_mul_right_div_self]

theorem top_succ {a i : Nat} (hi : i < 32) : topOf a (i + 1) = topOf a i ^^^ a / 2 ^ (31 - i) % 2 * 2 ^ (31 - i) := by
  unfold topOf
  rw [show 32 - (i + 1) = 31 - i by omega, show 32 - i = (31 - i) + 1 by omega]
  generalize hk : 31 - i = k
  have h1 : a / 2 ^ (k + 1) = a / 2 ^ k / 2 := by rw [Nat.pow_succ, Nat.div_div_eq_div_mul]
  rw [h1]
  generalize a / 2 ^ k = q
  have h2 : q % 2 * 2 ^ k < 2 ^ (k + 1) := by
    have : q % 2 < 2 := Nat.mod_lt _ (by decide)
    have h3 : 0 < 2 ^ k := Nat.two_pow_pos k
    rw [Nat.pow_succ]
    rcases (by omega : q % 2 = 0 ∨ q % 2 = 1) with h | h <;> rw [h] <;> omega
  rw [Nat.xor_comm, Nat.mul_comm (q / 2), ← add_xor h2, Nat.pow_succ]
  have h4 : q = 2 * (q / 2) + q % 2 := by omega
  calc q * 2 ^ k = (2 * (q / 2) + q % 2) * 2 ^ k := by rw [← h4]
    _ = q % 2 * 2 ^ k + 2 ^ k * 2 * (q / 2) := by rw [Nat.add_mul, Nat.add_comm, Nat.mul_comm (2 * (q / 2)), Nat.mul_assoc]

/-- One round of the product. -/
theorem times_step {a i m : Nat} (hi : i < 32) : hvs m (topOf a (i + 1)) = hvs m (topOf a i) ^^^ pw (m + i) * (lowOf a i / 2147483648) := by
  rw [low_bit hi, top_succ hi, hvs_xor, pw_shift (by omega)]
  rcases (by omega : a / 2 ^ (31 - i) % 2 = 0 ∨ a / 2 ^ (31 - i) % 2 = 1) with h | h <;> rw [h]
  · rw [Nat.zero_mul, hvs_zero, Nat.mul_zero]
  · rw [Nat.one_mul, Nat.mul_one]

/-- How many rounds are left. -/
def roundsOf : Nat → Nat → Nat
  | 0, _ => 0
  | k + 1, a => if a = 0 then 0 else 1 + roundsOf k (a * 2 % 4294967296)
theorem rounds_enough : ∀ (k a : Nat), a * 2 ^ k % 4294967296 = 0 → a < 4294967296 → roundsOf (k + 1) a = roundsOf k a
  | 0, a, h, hl => by
    have : a = 0 := by rw [Nat.pow_zero, Nat.mul_one, Nat.mod_eq_of_lt hl] at h; exact h
    subst this
    rfl
  | k + 1, a, h, hl => by
    show (if a = 0 then 0 else 1 + roundsOf (k + 1) (a * 2 % 4294967296)) = if a = 0 then 0 else 1 + roundsOf k (a * 2 % 4294967296)
    split
    · rfl
    · rw [rounds_enough k (a * 2 % 4294967296) (by rw [Nat.mod_mul_mod, Nat.mul_assoc, Nat.mul_comm 2, ← Nat.pow_succ]; exact h) (Nat.mod_lt _ (by decide))]
theorem rounds_less {a : Nat} (ha : a ≠ 0) : roundsOf 33 (a * 2 % 4294967296) < roundsOf 33 a := by
  have e : roundsOf 33 a = 1 + roundsOf 32 (a * 2 % 4294967296) := if_neg ha
  rw [e, rounds_enough 32 _ (by rw [show (2 : Nat) ^ 32 = 4294967296 from rfl, Nat.mul_mod_left]) (Nat.mod_lt _ (by decide))]
  omega

theorem nought_pw : pw 8 = 8388608 := by rw [pw_small (by omega)]
theorem unit_pw : pw 0 = 2147483648 := rfl
theorem hv_mul (n : Nat) : hv n = n / 2 ^^^ 3988292384 * (n % 2) := by
  unfold hv crcPoly
  split
  · rename_i h; rw [h, Nat.mul_one]
  · rename_i h; rw [show n % 2 = 0 by omega, Nat.mul_zero, Nat.xor_zero]
end Go.Proofs.Ytbbglgfgelnncaa
