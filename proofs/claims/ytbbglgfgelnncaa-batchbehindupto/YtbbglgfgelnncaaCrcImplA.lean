/- What the functions of package crc answer: halved, Table, through. No statement of the seat is proved here. -/
import Derived.Test.YtbbglgfgelnncaaGen
import Derived.Test.YtbbglgfgelnncaaCrcMath2
namespace Go.Proofs.Ytbbglgfgelnncaa
open Go.RowKit

theorem halved_any (n : Nat) (hn : n < 4294967296) (w : World) : Calls Try.prog 55 #[.int .u32 (n : Nat)] w fun e w' => e = .returned (.int .u32 (hv n : Nat)) ∧ w' = w := by
  have e1 : bits .and .u32 ((n : Nat) : Int) 1 = ((n % 2 : Nat) : Int) := by
    have := u32_and_nat n 1 hn (by decide)
    rw [Nat.and_one_is_mod] at this
    exact this
  have e2 : bits .xor .u32 ((n : Int) / 2) (3988292384 * bits .and .u32 ((n : Nat) : Int) 1 % 4294967296) = ((hv n : Nat) : Int) := by
    rw [e1, hv_mul, show (n : Int) / 2 = ((n / 2 : Nat) : Int) by omega, show (3988292384 * ((n % 2 : Nat) : Int)) % 4294967296 = ((3988292384 * (n % 2) : Nat) : Int) by omega]
    exact u32_xor_nat _ _ (by omega) (by omega)
  have E2 := hide e2
  clear e1 e2
  go_enter Try.func55, Try.ntmps55
  go_wp2
  go_ret
  exact ⟨ret_int (unhide E2), rfl⟩

set_option maxHeartbeats 1000000 in
/-- The closure that halves. -/
theorem halve_any (B n : Nat) (hn : n < 4294967296) (w : World) (hc : w.cell? ⟨B, 0, none⟩ = some (.int .u32 (n : Nat))) (hf : w.frozen? ⟨B, 0, none⟩ = false) :
    Calls Try.prog 54 #[.pointer (some ⟨B, 0, none⟩)] w fun e w' => (∃ v, e = .returned v) ∧ w' = w.setCell ⟨B, 0, none⟩ (.int .u32 (hv n : Nat)) := by
  go_enter Try.func54, Try.ntmps54
  go_wp2_with fail
  refine (halved_any n hn _).mono ?_
  rintro e w' ⟨rfl, rfl⟩
  go_wp2
  go_end0
  exact ⟨⟨_, rfl⟩, rfl⟩

set_option maxHeartbeats 1000000 in
theorem table_any (i : Nat) (hi : i < 256) (w : World) : Calls Try.prog 53 #[.int .u8 (i : Nat)] w fun e w' => e = .returned (.int .u32 (hvs 8 i : Nat)) ∧ Below w.heap.size w w' := by
  have HI : Hid (i < 4294967296) := by show i < _; omega
  have hB0 : Below w.heap.size w (w.alloc (.cells #[.int .u32 (i : Nat)] 70)) := (Below.refl _ w).alloc (Nat.le_refl _) _
  have HB0 := hide hB0
  clear hB0
  go_enter Try.func53, Try.ntmps53
  go_wp2
  go_loopw [8] (fun k W => ∃ j : Nat, j ≤ 8 ∧ k = .int .i64 j ∧ W.cell? ⟨w.heap.size, 0, none⟩ = some (.int .u32 ((hvs j i : Nat) : Int)) ∧ W.frozen? ⟨w.heap.size, 0, none⟩ = false ∧ Below w.heap.size w W) (fun k _ => 8 - (intOf k).toNat)
  case atStart => exact ⟨0, by omega, rfl, by simp; rfl, by simp, unhide HB0⟩
  case round =>
    obtain ⟨j, hj, rfl, hc, hf, hB⟩ := hrel
    have HB := hide hB
    have HS := hide (hvs_succ j i)
    have HL : Hid (hvs j i < 4294967296) := hvs_lt (unhide HI)
    clear hB
    by_cases hlt : j < 8
    · generalize hvs j i = x at *
      go_wp2_with fail
      refine (halve_any w.heap.size x (unhide HL) _ hc hf).mono ?_
      rintro e w' ⟨⟨v, rfl⟩, rfl⟩
      go_wp2
      exact ⟨⟨j + 1, by omega, by go_num, by rw [unhide HS]; exact World.cell?_setCell_same' _ _ _ (by rw [hc]; rfl), by rw [World.frozen?_setCell]; exact hf, (unhide HB).setCell (p := ⟨w.heap.size, 0, none⟩) (Nat.le_refl _) _⟩, by simp [intOf]; omega⟩
    · have e8 : j = 8 := by omega
      subst e8
      go_wp2
      go_ret
      exact ⟨rfl, unhide HB⟩

set_option maxHeartbeats 1000000 in
/-- A byte goes through the register. -/
theorem through_any (r b : Nat) (hr : r < 4294967296) (hb : b < 256) (w : World) : Calls Try.prog 52 #[.int .u32 (r : Nat), .int .u8 (b : Nat)] w fun e w' => e = .returned (.int .u32 (hvs 8 (r ^^^ b) : Nat)) ∧ Below w.heap.size w w' := by
  have hx : bits .xor .u8 (((r : Nat) : Int) % 256) ((b : Nat) : Int) = (((r % 256) ^^^ b : Nat) : Int) := by
    rw [show ((r : Nat) : Int) % 256 = ((r % 256 : Nat) : Int) by omega]
    exact u8_xor_nat _ _ (by omega) hb
  have hl : (r % 256) ^^^ b < 256 := Nat.xor_lt_two_pow (n := 8) (by omega) hb
  have hy : bits .xor .u32 ((hvs 8 ((r % 256) ^^^ b) : Nat) : Int) (((r : Nat) : Int) / 256) = ((hvs 8 (r ^^^ b) : Nat) : Int) := by
    rw [through r b hb, show ((r : Nat) : Int) / 256 = ((r / 256 : Nat) : Int) by omega]
    exact u32_xor_nat _ _ (hvs_lt (by omega)) (by omega)
  have HX := hide hx
  have HL := hide hl
  have HY := hide hy
  clear hx hl hy
  go_enter Try.func52, Try.ntmps52
  go_wp2_with fail
  rw [unhide HX]
  refine (table_any _ (unhide HL) _).mono ?_
  rintro e w' ⟨rfl, hB⟩
  have HB := hide hB
  clear hB
  go_wp2
  go_ret
  exact ⟨ret_int (unhide HY), unhide HB⟩

/-- All bits turned about. -/
theorem turned (s : Nat) (hs : s < 4294967296) : bits .xor .u32 IntKind.u32.max ((s : Nat) : Int) = ((crcOnes ^^^ s : Nat) : Int) := u32_xor_nat 4294967295 s (by decide) hs
end Go.Proofs.Ytbbglgfgelnncaa
