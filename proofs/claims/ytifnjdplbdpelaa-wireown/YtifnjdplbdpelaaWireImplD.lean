/- What joined of package wire answers. No statement of the seat is proved here. -/
import Derived.Test.YtifnjdplbdpelaaWireImplC
namespace Go.Proofs.Ytifnjdplbdpelaa
open Go.RowKit Go.Shelf Go.Lib

theorem or_step (j x y : Nat) (hj : j ≤ 9) (hx : x < 128 ^ j) : bits .or .u64 ((x : Nat) : Int) (IntKind.u64.wrap (((y : Nat) : Int) % 128 * 2 ^ (7 * j))) = (((x + 128 ^ j * (y % 128)) % 18446744073709551616 : Nat) : Int) := by
  have key : ∀ (k : Nat) (K : Nat) (D : Nat), K = 2 ^ k → K * D = 18446744073709551616 → x < K → (2 : Int) ^ k = ((K : Nat) : Int) → bits .or .u64 ((x : Nat) : Int) (IntKind.u64.wrap (((y : Nat) : Int) % 128 * ((K : Nat) : Int))) = (((x + K * (y % 128)) % 18446744073709551616 : Nat) : Int) := by
    intro k K D hK hD hxK _
    have e1 : IntKind.u64.wrap (((y : Nat) : Int) % 128 * ((K : Nat) : Int)) = ((((y % 128) % D) * K : Nat) : Int) := by
      rw [IntKind.wrap_u64, show ((y : Nat) : Int) % 128 * ((K : Nat) : Int) = (((y % 128) * K : Nat) : Int) by rw [Int.natCast_mul]; rfl]
      have : ((y % 128) % D) * K = (y % 128 * K) % 18446744073709551616 := by rw [← hD, Nat.mul_comm K D, Nat.mul_mod_mul_right]
      rw [this]
      omega
    have hDp : 0 < D := Nat.pos_of_ne_zero fun e => by subst e; omega
    have hb : (y % 128) % D < D := Nat.mod_lt _ hDp
    have hle : ((y % 128) % D) * K + K ≤ 18446744073709551616 := by
      have := Nat.mul_le_mul_right K (show (y % 128) % D + 1 ≤ D by omega)
      rw [Nat.add_mul, Nat.one_mul, Nat.mul_comm D K, hD] at this
      exact this
    rw [e1]
    refine (u64_or_nat x _ (by omega) (by omega)).trans ?_
    have e2 : x ||| (y % 128 % D * K) = x + y % 128 % D * K := by rw [hK]; exact or_part x _ k (by rw [← hK]; exact hxK)
    rw [e2]
    have e3 : K * (y % 128) = y % 128 % D * K + 18446744073709551616 * (y % 128 / D) := by
      have h1 := Nat.div_add_mod (y % 128) D
      rw [← hD, Nat.mul_assoc, Nat.mul_comm (y % 128 % D) K, ← Nat.mul_add]
      congr 1
      omega
    congr 1
    rw [e3]
    omega
  have hpow : (128 : Nat) ^ j = 2 ^ (7 * j) := by rw [Nat.pow_mul]
  have hi : (2 : Int) ^ (7 * j) = ((128 ^ j : Nat) : Int) := by rw [hpow]; simp
  have hd : (128 : Nat) ^ j * 2 ^ (64 - 7 * j) = 18446744073709551616 := by rw [hpow, ← Nat.pow_add, show 7 * j + (64 - 7 * j) = 64 by omega]
  rw [hi]
  exact key (7 * j) (128 ^ j) (2 ^ (64 - 7 * j)) hpow hd hx hi
theorem jn_lt64 (bs : List UInt8) : jn64 bs < 18446744073709551616 := Nat.mod_lt _ (by decide)
theorem jn_small (bs : List UInt8) (h : bs.length ≤ 9) : jn64 bs = val bs := by
  unfold jn64
  have h1 := val_lt bs
  have h2 := Nat.pow_le_pow_right (n := 128) (by omega) h
  have h3 : (128 ^ 9 : Nat) = 9223372036854775808 := by decide
  exact Nat.mod_eq_of_lt (by omega)
theorem jn_succ (bs : List UInt8) (j : Nat) (hj : j < bs.length) (h9 : j ≤ 9) : bits .or .u64 ((jn64 (bs.take j) : Nat) : Int) (IntKind.u64.wrap ((((bs.getD j 0).toNat : Nat) : Int) % 128 * 2 ^ (7 * j))) = ((jn64 (bs.take (j + 1)) : Nat) : Int) := by
  have hl : (bs.take j).length = j := by rw [List.length_take]; omega
  rw [jn_small _ (by omega)]
  have hv := val_lt (bs.take j)
  rw [hl] at hv
  rw [or_step j _ _ h9 hv]
  congr 1
  unfold jn64
  rw [List.take_succ_eq_append_getElem hj, val_append, hl, List.getD_eq_getElem?_getD, List.getElem?_eq_getElem hj]
  simp [val]

set_option maxRecDepth 100000 in
set_option maxHeartbeats 2000000 in
theorem joined_any (u : Value) (bs : List UInt8) (w : World) (h : Bytes w u bs) (hl : bs.length ≤ 10) : Calls Try.prog 22 #[u] w fun e w' => e = .returned (.int .u64 ((jn64 bs : Nat) : Int)) ∧ w' = w := by
  obtain ⟨a, c, rfl, hlc⟩ := h.form
  obtain ⟨n, hn⟩ : ∃ n, n = bs.length := ⟨_, rfl⟩
  rw [← hn] at h hlc hl ⊢
  have HH := hide h
  have HN := hide hn
  clear h hn
  go_enter Try.func22, Try.ntmps22
  go_wp2
  go_loopw [3, 8] (fun r k W => ∃ j : Nat, j ≤ n ∧ k = .int .i64 j ∧ r = .int .u64 ((jn64 (bs.take j) : Nat) : Int) ∧ W = w) (fun _ k _ => n - (intOf k).toNat)
  case atStart => exact ⟨0, by omega, rfl, by simp [jn64, val], rfl⟩
  case round =>
    obtain ⟨j, hj, rfl, rfl, rfl⟩ := hrel
    by_cases hlt : j < n
    · obtain ⟨ad, rfl, hc⟩ := (unhide HH).at hlt (unhide HN).symm
      have hk1 : (j : Int) < (n : Int) := by omega
      have HS := hide (jn_succ bs j (by have := unhide HN; omega) (by omega))
      generalize jn64 (bs.take j) = x at *
      have hyl : (bs.getD j 0).toNat < 256 := (bs.getD j 0).toNat_lt
      generalize (bs.getD j 0).toNat = y at *
      go_wp2
      exact ⟨⟨j + 1, by omega, by go_num, by rw [unhide HS], trivial⟩, by simp [intOf]; omega⟩
    · have e : j = n := by omega
      subst e
      have HT : Hid (bs.take j = bs) := List.take_of_length_le (by have := unhide HN; omega)
      rw [unhide HT]
      go_wp2
      go_ret
      exact ⟨rfl, rfl⟩
end Go.Proofs.Ytifnjdplbdpelaa
