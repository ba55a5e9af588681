/- What Take and Bytes tell, in one form each. No statement of the seat is proved here. -/
import Derived.Test.YtobgmbfoofkdeaaDoorBase11
import Derived.Test.YtobgmbfoofkdeaaDoorBase10
import Derived.Test.YtobgmbfoofkdeaaDoorBase09
import Derived.Test.YtobgmbfoofkdeaaDoorBase07
import Derived.Deep.RegionHeld3
namespace Go.Proofs.YtobgmbfoofkdeaaDoor
open Go.RowKit

/-- What Take tells, in one form. -/
theorem tookForm {w : World} {n : Nat} {bs : List UInt8} {e : Ending} {W : World} (h : TookVM w n bs e W) (hl : bs.length = n) : ∃ (x : VD) (K m c : Nat) (N : Int) (z : ByteArray) (a : Option Addr) (ra : Option Addr) (rn rc : Nat) (er : Int), e = .returned (.tuple #[.agg #[.int .u8 ((K : Nat) : Int), .int .i64 N, .string z, .slice a m c], .slice ra rn rc, .int .i64 er]) ∧ x.At (fun k => w.heap.size ≤ k) W (.agg #[.int .u8 ((K : Nat) : Int), .int .i64 N, .string z, .slice a m c]) ∧ ((er = 0 ∧ ∃ j, j ≤ n ∧ rn + j = n ∧ VReads bs 6 x j ∧ Bytes W (.slice ra rn rc) (bs.drop j)) ∨ (er = 30 ∧ NoVal bs 6 ∧ x = .mk 0 0 [] [] ∧ rn = 0)) := by
  rcases h with ⟨v, j, u, ra, rc, hv, hA, hB, rfl⟩ | ⟨hN, rfl⟩
  · obtain ⟨K, m, c, N, z, a, rfl⟩ := hA.form
    have hj : j ≤ n := by rw [hv.len, ← hl]; have := congrArg List.length hv.eq; simp only [List.length_append] at this; omega
    exact ⟨v, K, m, c, N, z, a, ra, n - j, rc, 0, rfl, hA, .inl ⟨rfl, j, hj, by omega, hv, hB⟩⟩
  · exact ⟨.mk 0 0 [] [], 0, 0, 0, 0, ⟨#[]⟩, none, none, 0, 0, 30, rfl, at_plain (k := 0) (n := 0) (s := []) (by omega) (by unfold InR; omega) (Nat.zero_le _), .inr ⟨rfl, hN, rfl, rfl⟩⟩

theorem tookOk {w : World} {n : Nat} {bs : List UInt8} {e : Ending} {W : World} {v : VD} {j : Nat} (h : TookVM w n bs e W) (hv : VReads bs 6 v j) : ∃ (K m c : Nat) (N : Int) (z : ByteArray) (a : Option Addr) (ra : Option Addr) (rc : Nat), e = .returned (.tuple #[.agg #[.int .u8 ((K : Nat) : Int), .int .i64 N, .string z, .slice a m c], .slice ra (n - j) rc, .int .i64 0]) ∧ v.At (fun k => w.heap.size ≤ k) W (.agg #[.int .u8 ((K : Nat) : Int), .int .i64 N, .string z, .slice a m c]) ∧ Bytes W (.slice ra (n - j) rc) (bs.drop j) := by
  rcases h with ⟨v', j', u, ra, rc, hv', hA, hB, rfl⟩ | ⟨hN, rfl⟩
  · obtain ⟨rfl, rfl⟩ := hv'.same hv
    obtain ⟨K, m, c, N, z, a, rfl⟩ := hA.form
    exact ⟨K, m, c, N, z, a, ra, rc, rfl, hA, hB⟩
  · exact absurd hv (hN _ _)
theorem tookNone {w : World} {n : Nat} {bs : List UInt8} {e : Ending} {W : World} (h : TookVM w n bs e W) (hN : NoVal bs 6) : e = .returned (.tuple #[.agg #[.int .u8 0, .int .i64 0, .string ⟨#[]⟩, .slice none 0 0], .slice none 0 0, .int .i64 30]) := by
  rcases h with ⟨v', j', u, ra, rc, hv', hA, hB, rfl⟩ | ⟨_, rfl⟩
  · exact absurd hv' (hN _ _)
  · rfl

/-- What Bytes tells, in one form. -/
theorem bytesForm {v : VD} {w : World} {e : Ending} {w' : World} (h : (v.right = true ∧ ∃ r, e = .returned (.tuple #[r, .int .i64 0]) ∧ Own w r v.bytes w') ∨ (v.right = false ∧ e = .returned (.tuple #[.slice none 0 0, .int .i64 2]) ∧ Below w.heap.size w w')) : ∃ (pa : Option Addr) (pn pc : Nat) (er : Int) (rs : List UInt8), e = .returned (.tuple #[.slice pa pn pc, .int .i64 er]) ∧ Bytes w' (.slice pa pn pc) rs ∧ Below w.heap.size w w' ∧ ((v.right = true ∧ er = 0 ∧ rs = v.bytes) ∨ (v.right = false ∧ er = 2 ∧ rs = [] ∧ pn = 0)) := by
  rcases h with ⟨hr, r, rfl, hO⟩ | ⟨hr, rfl, hb⟩
  · obtain ⟨pa, pc, rfl, _⟩ := hO.fresh.1.1.form
    exact ⟨pa, _, pc, 0, v.bytes, rfl, hO.fresh.1.1, hO.bb, .inl ⟨hr, rfl, rfl⟩⟩
  · exact ⟨none, 0, 0, 2, [], rfl, (Own.start w').fresh.1.1, hb, .inr ⟨hr, rfl, rfl, rfl⟩⟩

end Go.Proofs.YtobgmbfoofkdeaaDoor
