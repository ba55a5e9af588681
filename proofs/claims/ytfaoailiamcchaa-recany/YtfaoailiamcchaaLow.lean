/- What the statements' own helpers (foremanlow) do with records. No statement of the seat is proved here. -/
import Derived.Test.YtfaoailiamcchaaLowA
namespace Go.Proofs.Ytfaoailiamcchaa
open Go.RowKit

set_option maxHeartbeats 1000000 in
theorem low_sameRec (r s : RecD) (a1 a2 : Option Addr) (n1 c1 n2 c2 : Nat) (w : World) (h1 : Bytes w (.slice a1 n1 c1) r.d) (h2 : Bytes w (.slice a2 n2 c2) s.d) :
    Calls Try.prog 13 #[.agg #[.int .u8 (r.k.toNat : Nat), .slice a1 n1 c1], .agg #[.int .u8 (s.k.toNat : Nat), .slice a2 n2 c2]] w fun e w' => e = .returned (.bool (sameRec r s)) ∧ Below w.heap.size w w' := by
  have H1 := hide ((h1.alloc (.cells #[.int .u8 (r.k.toNat : Nat), .slice a1 n1 c1] 24)).alloc (.cells #[.int .u8 (s.k.toNat : Nat), .slice a2 n2 c2] 24))
  have H2 := hide ((h2.alloc (.cells #[.int .u8 (r.k.toNat : Nat), .slice a1 n1 c1] 24)).alloc (.cells #[.int .u8 (s.k.toNat : Nat), .slice a2 n2 c2] 24))
  clear h1 h2
  by_cases hk : r.k = s.k
  · have hk0 : (((r.k.toNat : Nat) : Int) == ((s.k.toNat : Nat) : Int)) = true := by rw [hk]; simp
    have HK : Hid (sameRec r s = decide (r.d = s.d)) := by show sameRec r s = _; unfold sameRec; rw [decide_eq_true hk, Bool.true_and]
    clear hk
    go_enter Try.func13, Try.ntmps13
    go_wp2_with fail
    refine (low_same _ _ r.d s.d _ (unhide H1) (unhide H2)).mono ?_
    rintro e w' ⟨rfl, rfl⟩
    rw [← unhide HK]
    go_wp2_with fail
    go_ret
    exact ⟨rfl, ((Below.refl _ w).alloc (Nat.le_refl _) _).alloc (by simp) _⟩
  · have hk1 : ¬ ((r.k.toNat : Nat) : Int) = ((s.k.toNat : Nat) : Int) := fun e => hk (UInt8.toNat_inj.1 (by omega))
    have hk0 : (((r.k.toNat : Nat) : Int) == ((s.k.toNat : Nat) : Int)) = false := beq_eq_false_iff_ne.2 hk1
    have HK : Hid (sameRec r s = false) := by show sameRec r s = _; unfold sameRec; rw [decide_eq_false hk, Bool.false_and]
    clear hk
    rw [unhide HK]
    go_enter Try.func13, Try.ntmps13
    go_wp2_with fail
    go_ret
    exact ⟨rfl, ((Below.refl _ w).alloc (Nat.le_refl _) _).alloc (by simp) _⟩

end Go.Proofs.Ytfaoailiamcchaa
