/- The document's check sums (foremanref02): its table. No statement of the seat is proved here. -/
import Derived.Test.YtjnhafchcajlbaaGen
import Derived.Test.YtjnhafchcajlbaaCrcMath
namespace Go.Proofs.Ytjnhafchcajlbaa
open Go.RowKit

theorem half_even (x : Nat) (h : ¬ x % 2 = 1) : ((x : Int) / 2) = ((hv x : Nat) : Int) := by unfold hv; rw [if_neg h]; omega
theorem half_odd (x : Nat) (hx : x < 4294967296) (h : x % 2 = 1) : bits .xor .u32 ((x : Int) / 2) 3988292384 = ((hv x : Nat) : Int) := by
  unfold hv
  rw [if_pos h]
  have := u32_xor_nat (x / 2) 3988292384 (by omega) (by omega)
  rw [show (x : Int) / 2 = ((x / 2 : Nat) : Int) by omega]
  exact this

set_option maxHeartbeats 1000000 in
theorem refTable_any (i : Nat) (hi : i < 256) (w : World) : Calls Try.prog 10 #[.int .u8 (i : Nat)] w fun e w' => e = .returned (.int .u32 (hvs 8 i : Nat)) ∧ w' = w := by
  go_enter Try.func10, Try.ntmps10
  go_wp2
  go_loopw [3, 4] (fun n k W => ∃ j : Nat, j ≤ 8 ∧ k = .int .i64 j ∧ n = .int .u32 ((hvs j i : Nat) : Int) ∧ W = w) (fun _ k _ => 8 - (intOf k).toNat)
  case atStart => exact ⟨0, by omega, rfl, rfl, rfl⟩
  case round =>
    obtain ⟨j, hj, rfl, rfl, rfl⟩ := hrel
    have hx : hvs j i < 4294967296 := hvs_lt (by omega)
    have HS := hide (hvs_succ j i)
    obtain ⟨x, hxe⟩ : ∃ x, x = hvs j i := ⟨_, rfl⟩
    rw [← hxe] at hx HS ⊢
    have HXE := hide hxe
    clear hxe
    by_cases hlt : j < 8
    · by_cases ho : x % 2 = 1
      · have ho' : (x : Int) % 2 = 1 := by omega
        go_wp2
        exact ⟨⟨j + 1, by omega, by go_num, by rw [unhide HS, ← half_odd x hx ho], by trivial⟩, by simp [intOf]; omega⟩
      · have ho' : (x : Int) % 2 = 0 := by omega
        go_wp2
        exact ⟨⟨j + 1, by omega, by go_num, by rw [unhide HS, ← half_even x ho], by trivial⟩, by simp [intOf]; omega⟩
    · have e8 : j = 8 := by omega
      subst e8
      go_wp2
      go_ret
      exact ⟨by rw [unhide HXE]; rfl, rfl⟩
end Go.Proofs.Ytjnhafchcajlbaa
