/- The document's check sums (foremanref02): what its functions answer. No statement of the seat is proved here. -/
import Derived.Test.YtbbglgfgelnncaaGen
import Derived.Test.YtbbglgfgelnncaaCrcMath
namespace Go.Proofs.Ytbbglgfgelnncaa
open Go.RowKit

/-- Bit by bit. -/
theorem bit_step (r x : Nat) : hv (r ^^^ x) = (if (r + x) % 2 = 1 then r / 2 ^^^ crcPoly else r / 2) ^^^ x / 2 := by
  unfold hv
  rw [xor_mod2, Nat.xor_div_two]
  split
  · rw [Nat.xor_assoc, Nat.xor_assoc, Nat.xor_comm (x / 2)]
  · rfl

set_option maxHeartbeats 1000000 in
theorem refNext_any (s b : Nat) (hs : s < 4294967296) (hb : b < 256) (w : World) : Calls Try.prog 49 #[.int .u32 (s : Nat), .int .u8 (b : Nat)] w fun e w' => e = .returned (.int .u32 (nx s b : Nat)) ∧ w' = w := by
  have hr0 : ((4294967295 : Int) - (s : Int)) = ((crcOnes ^^^ s : Nat) : Int) := by rw [← ones_sub hs]; unfold crcOnes; omega
  have HR0 := hide hr0
  have HB := hide hb
  have hR : crcOnes ^^^ s < 4294967296 := xor_lt32 ones_lt hs
  have HRL := hide hR
  have HNX : Hid (nx s b = crcOnes ^^^ hvs 8 (crcOnes ^^^ s ^^^ b)) := rfl
  clear hr0 hR
  go_enter Try.func49, Try.ntmps49
  go_wp2
  go_loopw [5, 6, 7] (fun r x k W => ∃ j r' x' : Nat, j ≤ 8 ∧ k = .int .i64 j ∧ r = .int .u32 (r' : Int) ∧ x = .int .u32 (x' : Int) ∧ r' < 4294967296 ∧ x' = b / 2 ^ j ∧ r' ^^^ x' = hvs j (crcOnes ^^^ s ^^^ b) ∧ W = w) (fun _ _ k _ => 8 - (intOf k).toNat)
  case atStart =>
    refine ⟨0, crcOnes ^^^ s, b, by omega, rfl, ?_, rfl, unhide HRL, by simp, rfl, rfl⟩
    first | rw [unhide HR0] | (congr 1; exact unhide HR0)
  case round =>
    obtain ⟨j, r, x, hj, rfl, rfl, rfl, hr, hx, he, rfl⟩ := hrel
    have hx256 : x < 256 := by rw [hx]; exact Nat.lt_of_le_of_lt (Nat.div_le_self _ _) (unhide HB)
    by_cases hlt : j < 8
    · have hx2 : x / 2 = b / 2 ^ (j + 1) := by rw [hx, Nat.pow_succ, Nat.div_div_eq_div_mul]
      have hst := bit_step r x
      have hs1 : hvs (j + 1) (crcOnes ^^^ s ^^^ b) = hv (r ^^^ x) := by rw [hvs_succ, ← he]
      have HST := hide hst
      have HS1 := hide hs1
      have HX2 := hide hx2
      clear hst hs1 hx2 he hx
      by_cases ho : (r + x) % 2 = 1
      · rw [if_pos ho] at HST
        have ho' : ((r : Int) + (x : Int)) % 4294967296 % 2 = 1 := by omega
        have hxx : bits .xor .u32 ((r : Int) / 2) 3988292384 = ((r / 2 ^^^ crcPoly : Nat) : Int) := by
          rw [show (r : Int) / 2 = ((r / 2 : Nat) : Int) by omega]
          exact u32_xor_nat (r / 2) 3988292384 (by omega) (by omega)
        have HXX := hide hxx
        clear hxx
        go_wp2
        refine ⟨⟨j + 1, r / 2 ^^^ crcPoly, x / 2, by omega, by go_num, ?_, ?_, xor_lt32 (by omega) (by decide), unhide HX2, ?_, by trivial⟩, by simp [intOf]; omega⟩
        · rw [unhide HXX]
        · congr 1
        · rw [unhide HS1, unhide HST]
      · rw [if_neg ho] at HST
        have ho' : ((r : Int) + (x : Int)) % 4294967296 % 2 = 0 := by omega
        go_wp2
        refine ⟨⟨j + 1, r / 2, x / 2, by omega, by go_num, ?_, ?_, by omega, unhide HX2, ?_, by trivial⟩, by simp [intOf]; omega⟩
        · congr 1
        · congr 1
        · rw [unhide HS1, unhide HST]
    · have e8 : j = 8 := by omega
      subst e8
      have hx0 : x = 0 := by rw [hx]; exact Nat.div_eq_of_lt (by have := unhide HB; omega)
      subst hx0
      rw [Nat.xor_zero] at he
      have hfin : ((4294967295 : Int) - (r : Int)) = ((nx s b : Nat) : Int) := by
        rw [unhide HNX, ← he, ← ones_sub hr]; unfold crcOnes; omega
      have HF := hide hfin
      clear hfin he
      go_wp2
      go_ret
      exact ⟨ret_int (unhide HF), rfl⟩

/-- The sum goes on byte by byte. -/
theorem sum_take (bs : List UInt8) (j : Nat) (hj : j < bs.length) : sumB (bs.take (j + 1)) = nx (sumB (bs.take j)) (bs.getD j 0).toNat := by
  rw [List.take_succ_eq_append_getElem hj, sum_snoc, List.getD_eq_getElem?_getD, List.getElem?_eq_getElem hj]
  rfl

set_option maxHeartbeats 1000000 in
theorem refSum_any (u : Value) (bs : List UInt8) (w : World) (h : Bytes w u bs) (hl : bs.length ≤ 1048576) : Calls Try.prog 41 #[u] w fun e w' => e = .returned (.int .u32 (sumB bs : Nat)) ∧ w' = w := by
  obtain ⟨a, c, rfl, hlc⟩ := h.form
  obtain ⟨n, hn⟩ : ∃ n, n = bs.length := ⟨_, rfl⟩
  rw [← hn] at h hlc hl ⊢
  have HH := hide h
  have HN := hide hn
  clear h hn
  go_enter Try.func41, Try.ntmps41
  go_wp2
  go_loopw [3, 4] (fun s k W => ∃ j : Nat, j ≤ n ∧ k = .int .i64 j ∧ s = .int .u32 ((sumB (bs.take j) : Nat) : Int) ∧ W = w) (fun _ k _ => n - (intOf k).toNat)
  case atStart => exact ⟨0, by omega, rfl, by simp [sumB], rfl⟩
  case round =>
    obtain ⟨j, hj, rfl, rfl, rfl⟩ := hrel
    by_cases hlt : j < n
    · obtain ⟨ad, rfl, hc⟩ := (unhide HH).at hlt (unhide HN).symm
      have hk1 : (j : Int) < (n : Int) := by omega
      have HS := hide (sum_take bs j (by have := unhide HN; omega))
      have hsl := sum_lt (bs.take j)
      have hbl : (bs.getD j 0).toNat < 256 := (bs.getD j 0).toNat_lt
      have HSL := hide hsl
      have HBL := hide hbl
      generalize sumB (bs.take j) = x at *
      generalize (bs.getD j 0).toNat = y at *
      clear hsl hbl
      go_wp2_with fail
      refine (refNext_any x y (unhide HSL) (unhide HBL) _).mono ?_
      rintro e w' ⟨rfl, rfl⟩
      go_wp2
      exact ⟨⟨j + 1, by omega, by go_num, by rw [unhide HS], by trivial⟩, by simp [intOf]; omega⟩
    · have e : j = n := by omega
      subst e
      have HT : Hid (bs.take j = bs) := List.take_of_length_le (by have := unhide HN; omega)
      rw [unhide HT]
      go_wp2
      go_ret
      exact ⟨rfl, rfl⟩
end Go.Proofs.Ytbbglgfgelnncaa
