/- What the functions of package crc answer, but for Sum: halved, times, noughts, Table, through, Next, Join. No statement of the seat is proved here. -/
import Derived.Test.YtjnhafchcajlbaaCrcOk
import Derived.Test.YtjnhafchcajlbaaCrcMath2
namespace Go.Proofs.Ytjnhafchcajlbaa
open Go.RowKit

theorem halved_any (n : Nat) (hn : n < 4294967296) (w : World) : Calls Try.prog 17 #[.int .u32 (n : Nat)] w fun e w' => e = .returned (.int .u32 (hv n : Nat)) ∧ w' = w := by
  have e1 : bits .and .u32 ((n : Nat) : Int) 1 = ((n % 2 : Nat) : Int) := by
    have := u32_and_nat n 1 hn (by decide)
    rw [Nat.and_one_is_mod] at this
    exact this
  have e2 : bits .xor .u32 ((n : Int) / 2) (3988292384 * bits .and .u32 ((n : Nat) : Int) 1 % 4294967296) = ((hv n : Nat) : Int) := by
    rw [e1, hv_mul, show (n : Int) / 2 = ((n / 2 : Nat) : Int) by omega, show (3988292384 * ((n % 2 : Nat) : Int)) % 4294967296 = ((3988292384 * (n % 2) : Nat) : Int) by omega]
    exact u32_xor_nat _ _ (by omega) (by omega)
  have E2 := hide e2
  clear e1 e2
  go_enter Try.func17, Try.ntmps17
  go_wp2
  go_ret
  exact ⟨ret_int (unhide E2), rfl⟩

set_option maxHeartbeats 1000000 in
/-- A product with a power of x. -/
theorem times_any (a m : Nat) (ha : a < 4294967296) (w : World) : Calls Try.prog 20 #[.int .u32 (a : Nat), .int .u32 (pw m : Nat)] w fun e w' => e = .returned (.int .u32 (hvs m a : Nat)) ∧ w' = w := by
  have HA := hide ha
  go_enter Try.func20, Try.ntmps20
  go_wp2
  go_loopw [0, 1, 5] (fun x y p W => ∃ i : Nat, i ≤ 32 ∧ x = .int .u32 ((lowOf a i : Nat) : Int) ∧ y = .int .u32 ((pw (m + i) : Nat) : Int) ∧ p = .int .u32 ((hvs m (topOf a i) : Nat) : Int) ∧ W = w) (fun x _ _ _ => roundsOf 33 (intOf x).toNat)
  case atStart =>
    exact ⟨0, by omega, by rw [low_zero (unhide HA)], rfl, by rw [top_zero (unhide HA), hvs_zero]; rfl, rfl⟩
  case round =>
    obtain ⟨i, hi, rfl, rfl, rfl, rfl⟩ := hrel
    by_cases h0 : lowOf a i = 0
    · have HT := hide (top_done hi h0)
      rw [h0, unhide HT]
      go_wp2
      go_ret
      exact ⟨rfl, rfl⟩
    · have hi2 : i < 32 := by
        rcases Nat.lt_or_ge i 32 with h | h
        · exact h
        · exact absurd (by rw [show i = 32 by omega]; exact low_32 a) h0
      have HS := hide (times_step (a := a) (m := m) hi2)
      have HL := hide (low_succ a i)
      have HR := hide (rounds_less h0)
      have HP := hide (pw_lt (m + i))
      have HPS : Hid (hv (pw (m + i)) = pw (m + (i + 1))) := by show hvs 1 (pw (m + i)) = _; rw [pw_hvs]; rfl
      have hx := low_lt a i
      have HTL : Hid (hvs m (topOf a i) < 4294967296) := hvs_lt (Nat.lt_of_le_of_lt (Nat.div_mul_le_self _ _) (unhide HA))
      generalize lowOf a i = x at *
      generalize pw (m + i) = y at *
      generalize hvs m (topOf a i) = p at *
      have e1 : bits .xor .u32 ((p : Nat) : Int) (((y : Nat) : Int) * (((x : Nat) : Int) / 2147483648) % 4294967296) = ((hvs m (topOf a (i + 1)) : Nat) : Int) := by
        rw [unhide HS]
        rcases (by omega : x / 2147483648 = 0 ∨ x / 2147483648 = 1) with h | h
        · rw [h, show ((x : Nat) : Int) / 2147483648 = 0 by omega, Int.mul_zero, Nat.mul_zero]
          exact u32_xor_nat p 0 (unhide HTL) (by decide)
        · rw [h, show ((x : Nat) : Int) / 2147483648 = 1 by omega, Int.mul_one, Nat.mul_one, show ((y : Nat) : Int) % 4294967296 = ((y : Nat) : Int) by have := unhide HP; omega]
          exact u32_xor_nat p y (unhide HTL) (unhide HP)
      have E1 := hide e1
      have hne : ¬ ((x : Nat) : Int) = 0 := by omega
      clear e1
      go_wp2_with fail
      refine (halved_any y (unhide HP) _).mono ?_
      rintro e w' ⟨rfl, rfl⟩
      go_wp2
      refine ⟨⟨i + 1, by omega, ?_, ?_, ?_, by trivial⟩, ?_⟩
      · rw [unhide HL]; congr 1
      · rw [unhide HPS]
      · rw [unhide E1]
      · have := unhide HR
        show roundsOf 33 (((x : Nat) : Int) * 2 % 4294967296).toNat < roundsOf 33 ((x : Nat) : Int).toNat
        rw [show (((x : Nat) : Int) * 2 % 4294967296).toNat = x * 2 % 4294967296 by omega, Int.toNat_natCast]
        exact this

theorem i64_odd (l : Nat) (h : l ≤ 2147483647) : bits .and .i64 ((l : Nat) : Int) 1 = ((l % 2 : Nat) : Int) := by
  have h1 : (BitVec.ofInt 64 1).toNat = 2 ^ 1 - 1 := by decide
  have key : (BitVec.ofInt 64 (l : Int) &&& BitVec.ofInt 64 1).toNat = ((l : Int) % ((2 ^ 64 : Nat) : Int)).toNat % 2 ^ 1 := by
    rw [BitVec.toNat_and, BitVec.toNat_ofInt, h1, Nat.and_two_pow_sub_one_eq_mod]
  show IntKind.i64.wrap ((BitVec.ofInt 64 (l : Int) &&& BitVec.ofInt 64 1).toNat : Nat) = _
  rw [key, IntKind.wrap_i64]
  omega

theorem nought_step {n r q l : Nat} (h : n = r + q * l) (ho : l % 2 = 1) : n = (r + q) + (q + q) * (l / 2) := by
  have e : l = l / 2 + l / 2 + 1 := by omega
  rw [h]
  conv => lhs; rw [e]
  rw [Nat.mul_add, Nat.mul_add, Nat.mul_one, Nat.add_mul]
  omega
theorem nought_step0 {n r q l : Nat} (h : n = r + q * l) (ho : ¬ l % 2 = 1) : n = r + (q + q) * (l / 2) := by
  have e : l = l / 2 + l / 2 := by omega
  rw [h]
  conv => lhs; rw [e]
  rw [Nat.mul_add, Nat.add_mul]

set_option maxHeartbeats 1000000 in
/-- So many noughts. -/
theorem noughts_any (n : Nat) (hn : n ≤ 2147483647) (w : World) : Calls Try.prog 21 #[.int .i64 (n : Nat)] w fun e w' => e = .returned (.int .u32 (pw (8 * n) : Nat)) ∧ w' = w := by
  have HN := hide hn
  go_enter Try.func21, Try.ntmps21
  go_wp2
  go_loopw [0, 3, 4] (fun x p y W => ∃ l r q : Nat, l ≤ 2147483647 ∧ n = r + q * l ∧ x = .int .i64 ((l : Nat) : Int) ∧ p = .int .u32 ((pw (8 * r) : Nat) : Int) ∧ y = .int .u32 ((pw (8 * q) : Nat) : Int) ∧ W = w) (fun x _ _ _ => (intOf x).toNat)
  case atStart => exact ⟨n, 0, 1, unhide HN, by omega, rfl, rfl, by rw [Nat.mul_one, nought_pw]; rfl, rfl⟩
  case round =>
    obtain ⟨l, r, q, hl, hs, rfl, rfl, rfl, rfl⟩ := hrel
    have HS := hide hs
    clear hs
    by_cases h0 : l = 0
    · subst h0
      have HE : Hid (r = n) := by have := unhide HS; show r = n; omega
      rw [unhide HE]
      go_wp2
      go_ret
      exact ⟨rfl, rfl⟩
    · have hpos : (0 : Int) < (l : Int) := by omega
      have HO := hide (i64_odd l hl)
      have HPQ : Hid (hvs (8 * q) (pw (8 * q)) = pw (8 * (q + q))) := by show _ = _; rw [pw_hvs]; congr 1; omega
      have HRQ : Hid (hvs (8 * q) (pw (8 * r)) = pw (8 * (r + q))) := by show _ = _; rw [pw_hvs]; congr 1; omega
      have T : True := trivial
      by_cases ho : l % 2 = 1
      · have HS2 := hide (nought_step (unhide HS) ho)
        have ho' : bits .and .i64 ((l : Nat) : Int) 1 = 1 := by rw [unhide HO, ho]; rfl
        go_wp2_with (clear T; refine (times_any (pw (8 * r)) (8 * q) (pw_lt _) _).mono ?_; rintro e w' ⟨rfl, rfl⟩)
        refine (times_any (pw (8 * q)) (8 * q) (pw_lt _) _).mono ?_
        rintro e w' ⟨rfl, rfl⟩
        rw [unhide HPQ, unhide HRQ]
        go_wp2
        exact ⟨⟨l / 2, r + q, q + q, by omega, unhide HS2, by congr 1, rfl, rfl, by trivial⟩, by simp [intOf]; omega⟩
      · have HS2 := hide (nought_step0 (unhide HS) ho)
        have ho' : bits .and .i64 ((l : Nat) : Int) 1 = 0 := by rw [unhide HO, show l % 2 = 0 by omega]; rfl
        go_wp2_with fail
        refine (times_any (pw (8 * q)) (8 * q) (pw_lt _) _).mono ?_
        rintro e w' ⟨rfl, rfl⟩
        rw [unhide HPQ]
        go_wp2
        exact ⟨⟨l / 2, r, q + q, by omega, unhide HS2, by congr 1, rfl, rfl, by trivial⟩, by simp [intOf]; omega⟩

set_option maxHeartbeats 1000000 in
theorem join_any (a b n : Nat) (ha : a < 4294967296) (hb : b < 4294967296) (hn : n ≤ 2147483647) (w : World) : Calls Try.prog 15 #[.int .u32 (a : Nat), .int .u32 (b : Nat), .int .i64 (n : Nat)] w fun e w' => e = .returned (.int .u32 (jn a b n : Nat)) ∧ w' = w := by
  have HA := hide ha
  have hx : bits .xor .u32 ((hvs (8 * n) a : Nat) : Int) ((b : Nat) : Int) = ((jn a b n : Nat) : Int) := u32_xor_nat _ _ (hvs_lt ha) hb
  have HX := hide hx
  have h1 : ¬ ((n : Nat) : Int) < 0 := by omega
  have h2 : ¬ ((n : Nat) : Int) > 2147483647 := by omega
  clear hx
  go_enter Try.func15, Try.ntmps15
  go_wp2_with fail
  refine (noughts_any n hn _).mono ?_
  rintro e w' ⟨rfl, rfl⟩
  go_wp2_with fail
  refine (times_any a (8 * n) (unhide HA) _).mono ?_
  rintro e w' ⟨rfl, rfl⟩
  go_wp2
  go_ret
  exact ⟨ret_int (unhide HX), rfl⟩

set_option maxHeartbeats 1000000 in
theorem join_bad (a b : Nat) (n : Int) (hn : n < 0 ∨ 2147483647 < n) (w : World) : Calls Try.prog 15 #[.int .u32 (a : Nat), .int .u32 (b : Nat), .int .i64 n] w fun e w' => e = .returned (.int .u32 (a : Nat)) ∧ w' = w := by
  by_cases h0 : n < 0
  · go_enter Try.func15, Try.ntmps15
    go_wp2
    go_ret
    exact ⟨rfl, rfl⟩
  · have h1 : 2147483647 < n := by omega
    go_enter Try.func15, Try.ntmps15
    go_wp2
    go_ret
    exact ⟨rfl, rfl⟩

set_option maxHeartbeats 1000000 in
/-- The closure that halves. -/
theorem halve_any (B n : Nat) (hn : n < 4294967296) (w : World) (hc : w.cell? ⟨B, 0, none⟩ = some (.int .u32 (n : Nat))) (hf : w.frozen? ⟨B, 0, none⟩ = false) :
    Calls Try.prog 16 #[.pointer (some ⟨B, 0, none⟩)] w fun e w' => (∃ v, e = .returned v) ∧ w' = w.setCell ⟨B, 0, none⟩ (.int .u32 (hv n : Nat)) := by
  go_enter Try.func16, Try.ntmps16
  go_wp2_with fail
  refine (halved_any n hn _).mono ?_
  rintro e w' ⟨rfl, rfl⟩
  go_wp2
  go_end0
  exact ⟨⟨_, rfl⟩, rfl⟩

set_option maxHeartbeats 1000000 in
theorem table_any (i : Nat) (hi : i < 256) (w : World) : Calls Try.prog 9 #[.int .u8 (i : Nat)] w fun e w' => e = .returned (.int .u32 (hvs 8 i : Nat)) ∧ Below w.heap.size w w' := by
  have HI : Hid (i < 4294967296) := by show i < _; omega
  have hB0 : Below w.heap.size w (w.alloc (.cells #[.int .u32 (i : Nat)] 22)) := (Below.refl _ w).alloc (Nat.le_refl _) _
  have HB0 := hide hB0
  clear hB0
  go_enter Try.func9, Try.ntmps9
  go_wp2
  go_loopw [8] (fun k W => ∃ j : Nat, j ≤ 8 ∧ k = .int .i64 j ∧ W.cell? ⟨w.heap.size, 0, none⟩ = some (.int .u32 ((hvs j i : Nat) : Int)) ∧ W.frozen? ⟨w.heap.size, 0, none⟩ = false ∧ Below w.heap.size w W) (fun k _ => 8 - (intOf k).toNat)
  case atStart => exact ⟨0, by omega, rfl, by simp; rfl, by simp, unhide HB0⟩
  case round =>
    obtain ⟨j, hj, rfl, hc, hf, hB⟩ := hrel
    have HB := hide hB
    have HS := hide (hvs_succ j i)
    have HL : Hid (hvs j i < 4294967296) := hvs_lt (unhide HI)
    clear hB
    by_cases hlt : j < 8
    · generalize hvs j i = x at *
      go_wp2_with fail
      refine (halve_any w.heap.size x (unhide HL) _ hc hf).mono ?_
      rintro e w' ⟨⟨v, rfl⟩, rfl⟩
      go_wp2
      exact ⟨⟨j + 1, by omega, by go_num, by rw [unhide HS]; exact World.cell?_setCell_same' _ _ _ (by rw [hc]; rfl), by rw [World.frozen?_setCell]; exact hf, (unhide HB).setCell (p := ⟨w.heap.size, 0, none⟩) (Nat.le_refl _) _⟩, by simp [intOf]; omega⟩
    · have e8 : j = 8 := by omega
      subst e8
      go_wp2
      go_ret
      exact ⟨rfl, unhide HB⟩

set_option maxHeartbeats 1000000 in
/-- A byte goes through the register. -/
theorem through_any (r b : Nat) (hr : r < 4294967296) (hb : b < 256) (w : World) : Calls Try.prog 18 #[.int .u32 (r : Nat), .int .u8 (b : Nat)] w fun e w' => e = .returned (.int .u32 (hvs 8 (r ^^^ b) : Nat)) ∧ Below w.heap.size w w' := by
  have hx : bits .xor .u8 (((r : Nat) : Int) % 256) ((b : Nat) : Int) = (((r % 256) ^^^ b : Nat) : Int) := by
    rw [show ((r : Nat) : Int) % 256 = ((r % 256 : Nat) : Int) by omega]
    exact u8_xor_nat _ _ (by omega) hb
  have hl : (r % 256) ^^^ b < 256 := Nat.xor_lt_two_pow (n := 8) (by omega) hb
  have hy : bits .xor .u32 ((hvs 8 ((r % 256) ^^^ b) : Nat) : Int) (((r : Nat) : Int) / 256) = ((hvs 8 (r ^^^ b) : Nat) : Int) := by
    rw [through r b hb, show ((r : Nat) : Int) / 256 = ((r / 256 : Nat) : Int) by omega]
    exact u32_xor_nat _ _ (hvs_lt (by omega)) (by omega)
  have HX := hide hx
  have HL := hide hl
  have HY := hide hy
  clear hx hl hy
  go_enter Try.func18, Try.ntmps18
  go_wp2_with fail
  rw [unhide HX]
  refine (table_any _ (unhide HL) _).mono ?_
  rintro e w' ⟨rfl, hB⟩
  have HB := hide hB
  clear hB
  go_wp2
  go_ret
  exact ⟨ret_int (unhide HY), unhide HB⟩

/-- All bits turned about. -/
theorem turned (s : Nat) (hs : s < 4294967296) : bits .xor .u32 IntKind.u32.max ((s : Nat) : Int) = ((crcOnes ^^^ s : Nat) : Int) := u32_xor_nat 4294967295 s (by decide) hs

set_option maxHeartbeats 1000000 in
theorem next_any (s b : Nat) (hs : s < 4294967296) (hb : b < 256) (w : World) : Calls Try.prog 11 #[.int .u32 (s : Nat), .int .u8 (b : Nat)] w fun e w' => e = .returned (.int .u32 (nx s b : Nat)) ∧ Below w.heap.size w w' := by
  have hR : crcOnes ^^^ s < 4294967296 := xor_lt32 ones_lt hs
  have HR0 := hide (turned s hs)
  have HR := hide hR
  have HF : Hid (bits .xor .u32 IntKind.u32.max ((hvs 8 (crcOnes ^^^ s ^^^ b) : Nat) : Int) = ((nx s b : Nat) : Int)) := turned _ (hvs_lt (xor_lt32 hR (by omega)))
  clear hR
  go_enter Try.func11, Try.ntmps11
  go_wp2_with fail
  rw [unhide HR0]
  refine (through_any _ b (unhide HR) hb _).mono ?_
  rintro e w' ⟨rfl, hB⟩
  have HB := hide hB
  clear hB
  go_wp2
  go_ret
  exact ⟨ret_int (unhide HF), unhide HB⟩
end Go.Proofs.Ytjnhafchcajlbaa
