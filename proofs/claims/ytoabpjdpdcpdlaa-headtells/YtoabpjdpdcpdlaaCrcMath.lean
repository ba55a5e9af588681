/- Check sums of 32 bits over natural numbers: the halving register, sums of bytes, joined sums. Our own definitions; no statement of the seat is proved here. -/
import Derived.Laws.BitsAllLaws
namespace Go.Proofs.Ytoabpjdpdcpdlaa

def crcPoly : Nat := 3988292384
def crcOnes : Nat := 4294967295
/-- A number is halved, with the polynomial if there was a rest. -/
def hv (n : Nat) : Nat := if n % 2 = 1 then n / 2 ^^^ crcPoly else n / 2
/-- So many times. -/
def hvs : Nat → Nat → Nat
  | 0, n => n
  | k + 1, n => hvs k (hv n)

theorem xor_mod2 (a b : Nat) : (a ^^^ b) % 2 = (a + b) % 2 := by
  have h : ((a ^^^ b) % 2 = 1) ↔ ¬ ((a % 2 = 1) ↔ (b % 2 = 1)) := by simp
  have h1 : (a ^^^ b) % 2 = 0 ∨ (a ^^^ b) % 2 = 1 := by omega
  rcases h1 with h1 | h1
  · have : (a % 2 = 1) ↔ (b % 2 = 1) := by
      by_cases hh : (a % 2 = 1) ↔ (b % 2 = 1)
      · exact hh
      · have := h.2 hh; omega
    omega
  · have := h.1 h1
    omega

theorem hv_xor (a b : Nat) : hv (a ^^^ b) = hv a ^^^ hv b := by
  unfold hv
  rw [xor_mod2, Nat.xor_div_two]
  by_cases ha : a % 2 = 1 <;> by_cases hb : b % 2 = 1
  · rw [if_neg (by omega), if_pos ha, if_pos hb]
    rw [Nat.xor_assoc (a / 2), Nat.xor_comm crcPoly, Nat.xor_assoc (b / 2), Nat.xor_self, Nat.xor_zero]
  · rw [if_pos (by omega), if_pos ha, if_neg hb, Nat.xor_assoc, Nat.xor_assoc, Nat.xor_comm (b / 2)]
  · rw [if_pos (by omega), if_neg ha, if_pos hb, Nat.xor_assoc]
  · rw [if_neg (by omega), if_neg ha, if_neg hb]

theorem hvs_xor : ∀ (k a b : Nat), hvs k (a ^^^ b) = hvs k a ^^^ hvs k b
  | 0, _, _ => rfl
  | k + 1, a, b => by show hvs k (hv (a ^^^ b)) = _; rw [hv_xor]; exact hvs_xor k _ _

theorem hv_zero : hv 0 = 0 := rfl
theorem hvs_zero : ∀ k, hvs k 0 = 0
  | 0 => rfl
  | k + 1 => by show hvs k (hv 0) = 0; rw [hv_zero]; exact hvs_zero k
theorem hvs_add : ∀ (k j n : Nat), hvs (k + j) n = hvs j (hvs k n)
  | 0, j, n => by rw [Nat.zero_add]; rfl
  | k + 1, j, n => by rw [show k + 1 + j = (k + j) + 1 by omega]; show hvs (k + j) (hv n) = hvs j (hvs k (hv n)); exact hvs_add k j _
theorem hvs_succ (k n : Nat) : hvs (k + 1) n = hv (hvs k n) := hvs_add k 1 n

theorem hv_lt {n : Nat} (h : n < 4294967296) : hv n < 4294967296 := by
  unfold hv
  split
  · exact Nat.xor_lt_two_pow (n := 32) (by omega) (by decide)
  · omega
theorem hvs_lt : ∀ {k n : Nat}, n < 4294967296 → hvs k n < 4294967296
  | 0, _, h => h
  | k + 1, _, h => hvs_lt (k := k) (hv_lt h)

theorem hv_eq_zero {n : Nat} (h : n < 4294967296) (h0 : hv n = 0) : n = 0 := by
  unfold hv at h0
  split at h0
  · have : n / 2 = crcPoly := by
      have h1 : n / 2 ^^^ crcPoly ^^^ crcPoly = crcPoly := by rw [h0, Nat.zero_xor]
      rwa [Nat.xor_assoc, Nat.xor_self, Nat.xor_zero] at h1
    have hp : crcPoly = 3988292384 := rfl
    omega
  · omega
theorem hvs_eq_zero : ∀ {k n : Nat}, n < 4294967296 → hvs k n = 0 → n = 0
  | 0, _, _, h => h
  | k + 1, _, h, h0 => hv_eq_zero h (hvs_eq_zero (k := k) (hv_lt h) h0)

theorem hvs_two_pow : ∀ (k y : Nat), hvs k (2 ^ k * y) = y
  | 0, y => by show 2 ^ 0 * y = y; omega
  | k + 1, y => by
    show hvs k (hv (2 ^ (k + 1) * y)) = y
    have e : hv (2 ^ (k + 1) * y) = 2 ^ k * y := by
      unfold hv
      rw [Nat.pow_succ, show 2 ^ k * 2 * y = 2 * (2 ^ k * y) by rw [Nat.mul_comm (2 ^ k) 2, Nat.mul_assoc]]
      rw [if_neg (by omega)]
      omega
    rw [e]; exact hvs_two_pow k y

theorem hvs_split : ∀ (k y z : Nat), z < 2 ^ k → hvs k (2 ^ k * y + z) = y ^^^ hvs k z
  | 0, y, z, h => by
    have : z = 0 := by simpa using h
    subst this
    show 2 ^ 0 * y + 0 = y ^^^ 0
    rw [Nat.xor_zero]; omega
  | k + 1, y, z, h => by
    show hvs k (hv (2 ^ (k + 1) * y + z)) = y ^^^ hvs k (hv z)
    have hp : 2 ^ (k + 1) * y = 2 * (2 ^ k * y) := by rw [Nat.pow_succ, Nat.mul_comm (2 ^ k) 2, Nat.mul_assoc]
    have hz : z / 2 < 2 ^ k := by rw [Nat.pow_succ] at h; omega
    have ih := hvs_split k y (z / 2) hz
    unfold hv
    rw [hp]
    by_cases h2 : z % 2 = 1
    · rw [if_pos (by omega), if_pos h2, show (2 * (2 ^ k * y) + z) / 2 = 2 ^ k * y + z / 2 by omega, hvs_xor, hvs_xor, ih, Nat.xor_assoc]
    · rw [if_neg (by omega), if_neg h2, show (2 * (2 ^ k * y) + z) / 2 = 2 ^ k * y + z / 2 by omega, ih]

/-- A byte goes through the register: by the table, and by definition. -/
theorem hvs8 (x : Nat) : hvs 8 x = hvs 8 (x % 256) ^^^ x / 256 := by
  have h := hvs_split 8 (x / 256) (x % 256) (by omega)
  rw [show 2 ^ 8 * (x / 256) + x % 256 = x by omega] at h
  rw [h, Nat.xor_comm]

theorem xor_mod256 (a b : Nat) : (a ^^^ b) % 256 = a % 256 ^^^ b % 256 := Nat.xor_mod_two_pow (n := 8)
theorem xor_div256 (a b : Nat) : (a ^^^ b) / 256 = a / 256 ^^^ b / 256 := Nat.xor_div_two_pow (n := 8)

theorem through (r b : Nat) (hb : b < 256) : hvs 8 (r ^^^ b) = hvs 8 ((r % 256) ^^^ b) ^^^ r / 256 := by
  rw [hvs8 (r ^^^ b), xor_mod256, xor_div256, Nat.mod_eq_of_lt hb, Nat.div_eq_of_lt hb, Nat.xor_zero]

theorem ones_sub {x : Nat} (h : x < 4294967296) : crcOnes - x = crcOnes ^^^ x := by
  have h1 := BitVec.toNat_not (x := BitVec.ofNat 32 x)
  have h2 : (~~~ (BitVec.ofNat 32 x)) = BitVec.allOnes 32 ^^^ BitVec.ofNat 32 x := by
    rw [BitVec.allOnes_xor]
  rw [h2, BitVec.toNat_xor, BitVec.toNat_allOnes, BitVec.toNat_ofNat, Nat.mod_eq_of_lt (by simpa using h)] at h1
  have e : crcOnes = 2 ^ 32 - 1 := by decide
  rw [e, h1]

theorem ones_lt : crcOnes < 4294967296 := by decide
theorem xor_lt32 {a b : Nat} (ha : a < 4294967296) (hb : b < 4294967296) : a ^^^ b < 4294967296 := Nat.xor_lt_two_pow (n := 32) ha hb

/-- The sum of bytes whose sum is s, and one byte more. -/
def nx (s b : Nat) : Nat := crcOnes ^^^ hvs 8 (crcOnes ^^^ s ^^^ b)
/-- The number whose digits are the bytes, the first one the lowest. -/
def le : List UInt8 → Nat
  | [] => 0
  | b :: r => b.toNat + 256 * le r
/-- The sum of bytes. -/
def sumB (bs : List UInt8) : Nat := bs.foldl (fun s b => nx s b.toNat) 0
/-- Two sums joined. -/
def jn (a b n : Nat) : Nat := hvs (8 * n) a ^^^ b

theorem nx_lt {s b : Nat} (hs : s < 4294967296) (hb : b < 256) : nx s b < 4294967296 := xor_lt32 ones_lt (hvs_lt (xor_lt32 (xor_lt32 ones_lt hs) (by omega)))

theorem add_xor {k a y : Nat} (h : a < 2 ^ k) : a + 2 ^ k * y = a ^^^ 2 ^ k * y := by
  have h1 := Nat.two_pow_add_eq_or_of_lt (b := a) (i := k) h y
  rw [Nat.add_comm, h1]
  apply Nat.eq_of_testBit_eq
  intro i
  rw [Nat.testBit_or, Nat.testBit_xor, Nat.testBit_two_pow_mul]
  by_cases hi : i < k
  · simp [Nat.not_le.2 hi]
  · have : a.testBit i = false := Nat.testBit_lt_two_pow (Nat.lt_of_lt_of_le h (Nat.pow_le_pow_right (by decide) (by omega)))
    simp [this]

theorem le_lt : ∀ (xs : List UInt8), le xs < 2 ^ (8 * xs.length)
  | [] => by decide
  | b :: r => by
    have := le_lt r
    have := b.toNat_lt
    show b.toNat + 256 * le r < 2 ^ (8 * (r.length + 1))
    rw [show 8 * (r.length + 1) = 8 * r.length + 8 by omega, Nat.pow_add]
    omega

theorem le_append : ∀ (xs ys : List UInt8), le (xs ++ ys) = le xs ^^^ 2 ^ (8 * xs.length) * le ys := fun xs ys => by
  rw [← add_xor (le_lt xs)]
  induction xs with
  | nil => simp [le]
  | cons b r ih =>
    show b.toNat + 256 * le (r ++ ys) = b.toNat + 256 * le r + 2 ^ (8 * (r.length + 1)) * le ys
    rw [ih, show 8 * (r.length + 1) = 8 * r.length + 8 by omega, Nat.pow_add, show (2 ^ (8 * r.length) * 2 ^ 8) * le ys = 256 * (2 ^ (8 * r.length) * le ys) by rw [Nat.mul_comm (2 ^ (8 * r.length)), Nat.mul_assoc]]
    omega

theorem sum_snoc (xs : List UInt8) (b : UInt8) : sumB (xs ++ [b]) = nx (sumB xs) b.toNat := by unfold sumB; rw [List.foldl_append]; rfl

theorem ones_ones (x : Nat) : crcOnes ^^^ (crcOnes ^^^ x) = x := by rw [← Nat.xor_assoc, Nat.xor_self, Nat.zero_xor]

/-- The sum of bytes by their number. -/
theorem sum_closed (xs : List UInt8) : sumB xs = crcOnes ^^^ hvs (8 * xs.length) (crcOnes ^^^ le xs) := by
  suffices h : ∀ (n : Nat) (xs : List UInt8), xs.length = n → sumB xs = crcOnes ^^^ hvs (8 * xs.length) (crcOnes ^^^ le xs) from h _ xs rfl
  intro n
  induction n with
  | zero =>
    intro xs h
    obtain rfl := List.eq_nil_of_length_eq_zero h
    decide
  | succ n ih =>
    intro xs h
    obtain ⟨ys, b, rfl⟩ : ∃ ys b, xs = ys ++ [b] := ⟨xs.dropLast, xs.getLast (by intro e; subst e; simp at h), (List.dropLast_concat_getLast _).symm⟩
    have hl : ys.length = n := by simpa using h
    rw [sum_snoc, ih ys hl, le_append]
    unfold nx
    rw [ones_ones]
    have e : le [b] = b.toNat := by show b.toNat + 256 * 0 = b.toNat; omega
    rw [e, List.length_append, List.length_singleton, show 8 * (ys.length + 1) = 8 * ys.length + 8 by omega, hvs_add, ← Nat.xor_assoc, hvs_xor (8 * ys.length) (crcOnes ^^^ le ys), hvs_two_pow]

theorem sum_lt (xs : List UInt8) : sumB xs < 4294967296 := by
  suffices h : ∀ (xs : List UInt8) (s : Nat), s < 4294967296 → xs.foldl (fun s b => nx s b.toNat) s < 4294967296 from h xs 0 (by decide)
  intro xs
  induction xs with
  | nil => intro s h; exact h
  | cons b r ih => intro s h; exact ih _ (nx_lt h b.toNat_lt)

/-- P2.2: the sums of two rows, joined. -/
theorem join_sum (xs ys : List UInt8) : jn (sumB xs) (sumB ys) ys.length = sumB (xs ++ ys) := by
  unfold jn
  rw [sum_closed (xs ++ ys), sum_closed ys, le_append, List.length_append, Nat.mul_add, hvs_add, ← Nat.xor_assoc crcOnes (le xs), hvs_xor (8 * xs.length) (crcOnes ^^^ le xs), hvs_two_pow]
  have hx : hvs (8 * xs.length) (crcOnes ^^^ le xs) = crcOnes ^^^ sumB xs := by rw [sum_closed xs, ones_ones]
  rw [hx, hvs_xor, hvs_xor, hvs_xor]
  generalize hvs (8 * ys.length) (sumB xs) = A
  generalize hvs (8 * ys.length) crcOnes = B
  generalize hvs (8 * ys.length) (le ys) = C
  rw [Nat.xor_comm B A, Nat.xor_assoc A, ← Nat.xor_assoc crcOnes A, Nat.xor_comm crcOnes A, Nat.xor_assoc A]

theorem join_zero (a b m n : Nat) : jn (jn a 0 m) b n = jn a b (m + n) := by
  unfold jn
  rw [Nat.xor_zero, Nat.mul_add, hvs_add]
theorem join_none (a : Nat) : jn a 0 0 = a := by unfold jn; rw [Nat.xor_zero]; rfl
theorem join_assoc (a b c m n : Nat) : jn a (jn b c n) (m + n) = jn (jn a b m) c n := by
  unfold jn
  rw [Nat.mul_add, hvs_add, hvs_xor, Nat.xor_assoc]
theorem jn_lt {a b n : Nat} (ha : a < 4294967296) (hb : b < 4294967296) : jn a b n < 4294967296 := xor_lt32 (hvs_lt ha) hb

/-- What two rows of one length differ in tells what their sums differ in. -/
theorem sum_xor (xs ys : List UInt8) (h : xs.length = ys.length) : sumB xs ^^^ sumB ys = hvs (8 * xs.length) (le xs ^^^ le ys) := by
  rw [sum_closed xs, sum_closed ys, ← h, hvs_xor, hvs_xor, hvs_xor]
  generalize hvs (8 * xs.length) crcOnes = A
  generalize hvs (8 * xs.length) (le xs) = B
  generalize hvs (8 * xs.length) (le ys) = C
  rw [← Nat.xor_assoc crcOnes A, ← Nat.xor_assoc crcOnes A]
  generalize crcOnes ^^^ A = D
  rw [Nat.xor_comm D B, Nat.xor_assoc B, ← Nat.xor_assoc D D, Nat.xor_self, Nat.zero_xor]

theorem xor_eq_zero {a b : Nat} (h : a ^^^ b = 0) : a = b := by
  have h1 : a ^^^ b ^^^ b = b := by rw [h, Nat.zero_xor]
  rwa [Nat.xor_assoc, Nat.xor_self, Nat.xor_zero] at h1

theorem sum_eq_iff (xs ys : List UInt8) (h : xs.length = ys.length) : sumB xs = sumB ys ↔ hvs (8 * xs.length) (le xs ^^^ le ys) = 0 := by
  rw [← sum_xor xs ys h]
  exact ⟨fun e => by rw [e, Nat.xor_self], xor_eq_zero⟩

theorem toNat_xor8 (a b : UInt8) : (a ^^^ b).toNat = a.toNat ^^^ b.toNat := UInt8.toNat_xor a b

theorem two_pow_xor (k a b : Nat) : 2 ^ k * (a ^^^ b) = 2 ^ k * a ^^^ 2 ^ k * b := by
  apply Nat.eq_of_testBit_eq
  intro i
  rw [Nat.testBit_xor, Nat.testBit_two_pow_mul, Nat.testBit_two_pow_mul, Nat.testBit_two_pow_mul, Nat.testBit_xor]
  by_cases h : k ≤ i <;> simp [h]

/-- A byte of a row turned about. -/
theorem le_set : ∀ (xs : List UInt8) (i : Nat) (v : UInt8) (hi : i < xs.length), le (xs.set i (xs[i] ^^^ v)) = le xs ^^^ 2 ^ (8 * i) * v.toNat
  | b :: r, 0, v, _ => by
    show (b ^^^ v).toNat + 256 * le r = (b.toNat + 256 * le r) ^^^ 2 ^ 0 * v.toNat
    have h1 := b.toNat_lt
    have h3 : (b ^^^ v).toNat < 2 ^ 8 := (b ^^^ v).toNat_lt
    rw [show (256 : Nat) = 2 ^ 8 by decide, add_xor h3, add_xor (k := 8) (a := b.toNat) (by omega), toNat_xor8, Nat.pow_zero, Nat.one_mul, Nat.xor_assoc, Nat.xor_assoc, Nat.xor_comm v.toNat]
  | b :: r, i + 1, v, hi => by
    have hi' : i < r.length := by simpa using hi
    have ih := le_set r i v hi'
    show b.toNat + 256 * le (r.set i (r[i] ^^^ v)) = (b.toNat + 256 * le r) ^^^ 2 ^ (8 * (i + 1)) * v.toNat
    have h1 := b.toNat_lt
    rw [ih, show (256 : Nat) = 2 ^ 8 by decide, add_xor (k := 8) (a := b.toNat) (by omega), add_xor (k := 8) (a := b.toNat) (by omega), show 8 * (i + 1) = 8 * i + 8 by omega, Nat.pow_add, show 2 ^ (8 * i) * 2 ^ 8 * v.toNat = 2 ^ 8 * (2 ^ (8 * i) * v.toNat) by rw [Nat.mul_comm (2 ^ (8 * i)), Nat.mul_assoc], Nat.xor_assoc, two_pow_xor]

/-- Less than 2^32 at place m: told by the sum. -/
theorem burst {n m E : Nat} (hm : m ≤ n) (hE : E < 4294967296) : hvs (8 * n) (2 ^ (8 * m) * E) = 0 ↔ E = 0 := by
  rw [show 8 * n = 8 * m + 8 * (n - m) by omega, hvs_add, hvs_two_pow]
  exact ⟨hvs_eq_zero hE, fun h => by rw [h, hvs_zero]⟩

/-- Is the number not met within so many halvings? -/
def noOne : Nat → Nat → Bool
  | 0, _ => true
  | k + 1, n => hv n != 1 && noOne k (hv n)
theorem noOne_spec : ∀ (k n d : Nat), noOne k n = true → 0 < d → d ≤ k → hvs d n ≠ 1
  | 0, _, d, _, h1, h2 => by omega
  | k + 1, n, d, h, h1, h2 => by
    rw [noOne, Bool.and_eq_true] at h
    cases d with
    | zero => omega
    | succ d =>
      show hvs d (hv n) ≠ 1
      cases d with
      | zero => have h1 := h.1; exact fun e => by rw [show hv n = 1 from e] at h1; simp at h1
      | succ d => exact noOne_spec k (hv n) (d + 1) h.2 (by omega) (by omega)
set_option maxRecDepth 100000 in
theorem noOne_2400 : noOne 2400 1 = true := by decide +kernel

theorem two_bits {n p q : Nat} (hp : p < 8 * n) (hq : q < 8 * n) (hn : n ≤ 300) : hvs (8 * n) (2 ^ p ^^^ 2 ^ q) = 0 ↔ p = q := by
  refine ⟨fun h => ?_, fun h => by rw [h, Nat.xor_self, hvs_zero]⟩
  suffices H : ∀ p q, p < q → q < 8 * n → hvs (8 * n) (2 ^ p ^^^ 2 ^ q) ≠ 0 by
    rcases Nat.lt_trichotomy p q with h1 | h1 | h1
    · exact absurd h (H p q h1 hq)
    · exact h1
    · rw [Nat.xor_comm] at h; exact absurd h (H q p h1 hp)
  intro p q hpq hq h
  have e : 2 ^ p ^^^ 2 ^ q = 2 ^ p * (1 ^^^ 2 ^ (q - p)) := by
    rw [two_pow_xor, Nat.mul_one, ← Nat.pow_add, show p + (q - p) = q by omega]
  rw [e, show 8 * n = p + ((q - p) + (8 * n - q)) by omega, hvs_add, hvs_two_pow, hvs_add, hvs_xor] at h
  have e2 : hvs (q - p) (2 ^ (q - p)) = 1 := by have := hvs_two_pow (q - p) 1; rwa [Nat.mul_one] at this
  rw [e2] at h
  have hlt : hvs (q - p) 1 ^^^ 1 < 4294967296 := xor_lt32 (hvs_lt (by decide)) (by decide)
  have := xor_eq_zero (hvs_eq_zero hlt h)
  exact noOne_spec 2400 1 (q - p) noOne_2400 (by omega) (by omega) this
end Go.Proofs.Ytoabpjdpdcpdlaa
