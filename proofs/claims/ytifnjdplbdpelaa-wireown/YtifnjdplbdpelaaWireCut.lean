/- Slices of bytes that came in, where their address is wanted. No statement of the seat is proved here. -/
import Derived.Test.YtifnjdplbdpelaaGen2
namespace Go.Proofs.Ytifnjdplbdpelaa
open Go.RowKit

/-- Where a slice's bytes from place k on lie. -/
def wcutA (a : Option Addr) (n k : Nat) : Option Addr := if n = k then a else a.map (·.add k)

theorem Bytes.cut {w : World} {a : Option Addr} {n c k : Nat} {bs : List UInt8} (h : Bytes w (.slice a n c) bs) (hk : k ≤ n) : Bytes w (.slice (wcutA a n k) (n - k) (n - k)) (bs.drop k) := by
  obtain ⟨hl, hnc⟩ := bytes_len h
  have hdl : (bs.drop k).length = n - k := by rw [List.length_drop, hl]
  rcases h with ⟨hv, rfl⟩ | ⟨ad, c', hv, h1, h2, hr⟩
  · simp only [Value.slice.injEq] at hv
    obtain ⟨rfl, rfl, rfl⟩ := hv
    have : k = 0 := by omega
    subst this
    exact .inl ⟨rfl, rfl⟩
  · simp only [Value.slice.injEq] at hv
    obtain ⟨rfl, _, rfl⟩ := hv
    by_cases e : n = k
    · subst e
      refine .inr ⟨ad, n - n, by rw [hdl, wcutA, if_pos rfl], by omega, by unfold maxLen at *; omega, fun j x hx => ?_⟩
      rw [List.drop_of_length_le (by omega)] at hx
      cases hx
    · refine .inr ⟨ad.add k, n - k, by rw [hdl, wcutA, if_neg e]; rfl, by omega, by unfold maxLen at *; omega, fun j x hx => ?_⟩
      rw [List.map_drop, List.getElem?_drop] at hx
      rw [Addr.add_add]
      exact hr _ _ hx

section
variable {a : Option Addr} {n c : Nat}
theorem typ_bytes : Try.prog.underlying 22 = some (.slice (Try.prog.elem 22)) := by
  have hel : Try.prog.elem 22 = 5 := by unfold Program.elem; rw [Try.underlying22]
  rw [hel]; exact Try.underlying22
theorem cut_run {k : Nat} (h1 : k ≤ n) (h2 : n ≤ c) : (∀ W : World, (Instr.slice 22 (.slice a n c) (some (.int .i64 (k : Nat))) (some (.int .i64 (n : Nat))) (some (.int .i64 (n : Nat)))).run Try.prog W = .ok (.slice (wcutA a n k) (n - k) (n - k)) W) ∧
    (∀ W : World, (Instr.sliceAt 22 (.slice a n c) (some (.int .i64 (k : Nat))) (some (.int .i64 (n : Nat))) (some (.int .i64 (n : Nat)))).run Try.prog W = .ok (.slice (wcutA a n k) (n - k) (n - k)) W) := by
  have hel : Try.prog.elem 22 = 5 := by unfold Program.elem; rw [Try.underlying22]
  have hr : ∀ W : World, (Instr.slice 22 (.slice a n c) (some (.int .i64 (k : Nat))) (some (.int .i64 (n : Nat))) (some (.int .i64 (n : Nat)))).run Try.prog W = .ok (.slice (wcutA a n k) (n - k) (n - k)) W := fun W => by
    rw [run_slice_lhm W 22 a n c typ_bytes .i64 .i64 .i64 k n n (by omega) (by omega) (by omega) (by omega), hel]
    have hsz : (sizeOf 5).run Try.prog W = .ok 1 W := by simp [sizeOf]; rfl
    rw [hsz]
    simp only [Result.andThen, sliced, Int.toNat_natCast, Nat.mul_one, wcutA]
  exact ⟨hr, fun W => by rw [run_sliceAt_slice W _ _ _ _ _ typ_bytes]; exact hr W⟩
theorem wcutL_run {k : Nat} (h1 : k ≤ n) : (∀ W : World, (Instr.slice 22 (.slice a n n) (some (.int .i64 (k : Nat))) none none).run Try.prog W = .ok (.slice (wcutA a n k) (n - k) (n - k)) W) ∧
    (∀ W : World, (Instr.sliceAt 22 (.slice a n n) (some (.int .i64 (k : Nat))) none none).run Try.prog W = .ok (.slice (wcutA a n k) (n - k) (n - k)) W) := by
  have hel : Try.prog.elem 22 = 5 := by unfold Program.elem; rw [Try.underlying22]
  have hr : ∀ W : World, (Instr.slice 22 (.slice a n n) (some (.int .i64 (k : Nat))) none none).run Try.prog W = .ok (.slice (wcutA a n k) (n - k) (n - k)) W := fun W => by
    rw [run_slice_l W 22 a n n typ_bytes .i64 k (by omega) (by omega), hel]
    have hsz : (sizeOf 5).run Try.prog W = .ok 1 W := by simp [sizeOf]; rfl
    rw [hsz]
    simp only [Result.andThen, sliced, Int.toNat_natCast, Nat.mul_one, wcutA]
  exact ⟨hr, fun W => by rw [run_sliceAt_slice W _ _ _ _ _ typ_bytes]; exact hr W⟩
theorem head_run {h : Nat} (h1 : h ≤ c) : (∀ W : World, (Instr.slice 22 (.slice a n c) none (some (.int .i64 (h : Nat))) none).run Try.prog W = .ok (.slice a h c) W) ∧
    (∀ W : World, (Instr.sliceAt 22 (.slice a n c) none (some (.int .i64 (h : Nat))) none).run Try.prog W = .ok (.slice a h c) W) := by
  have hel : Try.prog.elem 22 = 5 := by unfold Program.elem; rw [Try.underlying22]
  have hr : ∀ W : World, (Instr.slice 22 (.slice a n c) none (some (.int .i64 (h : Nat))) none).run Try.prog W = .ok (.slice a h c) W := fun W => by
    rw [run_slice_h W 22 a n c typ_bytes .i64 h (by omega) (by omega), hel]
    have hsz : (sizeOf 5).run Try.prog W = .ok 1 W := by simp [sizeOf]; rfl
    rw [hsz]
    simp only [Result.andThen, sliced, Int.toNat_natCast, Nat.mul_one, Nat.sub_zero]
    by_cases e : c = 0
    · rw [if_pos e]
    · rw [if_neg e]; cases a <;> simp [Addr.add]
  exact ⟨hr, fun W => by rw [run_sliceAt_slice W _ _ _ _ _ typ_bytes]; exact hr W⟩
end
end Go.Proofs.Ytifnjdplbdpelaa
