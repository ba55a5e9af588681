/- What the functions of the document's own disk (foremanref01) do: Truncate. No statement of the seat is proved here. -/
import Derived.Test.YtoabpjdpdcpdlaaRef6
namespace Go.Proofs.Ytoabpjdpdcpdlaa
open Go.RowKit

/-- What lies behind the first m bytes of a slice. -/
theorem slice_off {w : World} {ra : Option Addr} {L rc m lf : Nat} {gb : List UInt8} (h : Bytes w (.slice ra L rc) gb) (hL : gb.length = L) (hl : L = m + lf) : ∃ sa sc, Bytes w (.slice sa lf sc) (gb.drop m) ∧ (∀ W : World, (Instr.slice 25 (.slice ra L rc) (some (.int .i64 m)) none none).run Try.prog W = .ok (.slice sa lf sc) W) ∧ ∀ W : World, (Instr.sliceAt 25 (.slice ra L rc) (some (.int .i64 m)) none none).run Try.prog W = .ok (.slice sa lf sc) W := by
  subst hL
  have hu : Try.prog.underlying 25 = some (.slice 5) := Try.underlying25
  have hel : Try.prog.elem 25 = 5 := by unfold Program.elem; rw [hu]
  have hu' : Try.prog.underlying 25 = some (.slice (Try.prog.elem 25)) := by rw [hel]; exact hu
  have hr : ∀ W : World, (Instr.slice 25 (.slice ra gb.length rc) (some (.int .i64 m)) none none).run Try.prog W = .ok (.slice (if rc = m then ra else ra.map (·.add m)) lf (rc - m)) W := fun W => by
    rw [run_slice_l W 25 ra gb.length rc hu' .i64 m (by omega) (by omega), hel]
    have hsz : (sizeOf 5).run Try.prog W = .ok 1 W := by simp [sizeOf]; rfl
    rw [hsz]
    simp only [Result.andThen, sliced, Int.toNat_natCast, Nat.mul_one]
    rw [show gb.length - m = lf by omega]
  refine ⟨_, _, ?_, hr, fun W => by rw [run_sliceAt_slice W _ _ _ _ _ hu']; exact hr W⟩
  have hdl : (gb.drop m).length = lf := by rw [List.length_drop]; omega
  rcases h with ⟨hv, hb⟩ | ⟨ad, c', hv, hl1, hl2, hb⟩
  · simp only [Value.slice.injEq] at hv
    obtain ⟨rfl, hn, rfl⟩ := hv
    refine .inl ⟨?_, by rw [hb]; simp⟩
    have : lf = 0 := by omega
    subst this
    split <;> simp
  · simp only [Value.slice.injEq] at hv
    obtain ⟨rfl, _, rfl⟩ := hv
    by_cases hc : rc = m
    · rw [if_pos hc]
      have : lf = 0 := by omega
      subst this
      have hn : gb.drop m = [] := List.drop_eq_nil_of_le (by omega)
      rw [hn]
      exact .inr ⟨ad, rc - m, rfl, Nat.zero_le _, by omega, fun j x hx => by simp at hx⟩
    · rw [if_neg hc]
      refine .inr ⟨ad.add m, rc - m, by rw [hdl]; rfl, by rw [hdl]; omega, by omega, fun j x hx => ?_⟩
      have := hb (m + j) x (by rw [List.map_drop, List.getElem?_drop] at hx; exact hx)
      rwa [Addr.add_add]

/-- The first s bytes of a slice, with no room behind them. -/
theorem slice_first {w : World} {ra : Option Addr} {L rc s : Nat} {gb : List UInt8} (h : Bytes w (.slice ra L rc) gb) (hL : gb.length = L) (hs : s ≤ L) : Bytes w (.slice ra s s) (gb.take s) ∧ (∀ W : World, (Instr.slice 25 (.slice ra L rc) none (some (.int .i64 s)) (some (.int .i64 s))).run Try.prog W = .ok (.slice ra s s) W) ∧ ∀ W : World, (Instr.sliceAt 25 (.slice ra L rc) none (some (.int .i64 s)) (some (.int .i64 s))).run Try.prog W = .ok (.slice ra s s) W := by
  subst hL
  have hu : Try.prog.underlying 25 = some (.slice 5) := Try.underlying25
  have hel : Try.prog.elem 25 = 5 := by unfold Program.elem; rw [hu]
  have hu' : Try.prog.underlying 25 = some (.slice (Try.prog.elem 25)) := by rw [hel]; exact hu
  obtain ⟨_, _, hfv, hcap⟩ := h.form
  simp only [Value.slice.injEq] at hfv
  obtain ⟨_, _, rfl⟩ := hfv
  have hr : ∀ W : World, (Instr.slice 25 (.slice ra gb.length rc) none (some (.int .i64 s)) (some (.int .i64 s))).run Try.prog W = .ok (.slice ra s s) W := fun W => by
    rw [run_slice_hm W 25 ra gb.length rc hu' .i64 .i64 s s (by omega) (by omega) (by omega), hel]
    have hsz : (sizeOf 5).run Try.prog W = .ok 1 W := by simp [sizeOf]; rfl
    rw [hsz]
    simp only [Result.andThen, sliced, Int.toNat_natCast, Nat.mul_one, Nat.sub_zero]
    cases ra with
    | none => simp
    | some ad => cases ad; simp [Addr.add]
  refine ⟨?_, hr, fun W => by rw [run_sliceAt_slice W _ _ _ _ _ hu']; exact hr W⟩
  have hlt : (gb.take s).length = s := by rw [List.length_take]; omega
  rcases h with ⟨hv, hb⟩ | ⟨ad, c', hv, hl1, hl2, hb⟩
  · simp only [Value.slice.injEq] at hv
    obtain ⟨rfl, hn, rfl⟩ := hv
    have : s = 0 := by omega
    subst this
    exact .inl ⟨rfl, by simp⟩
  · simp only [Value.slice.injEq] at hv
    obtain ⟨rfl, _, rfl⟩ := hv
    refine .inr ⟨ad, s, by rw [hlt], by omega, by omega, fun j x hx => hb j x ?_⟩
    rw [List.map_take, List.getElem?_take] at hx
    split at hx
    · exact hx
    · cases hx

section
variable (c : Int) (P : Nat → Option Addr) (N C : Nat → Nat) (bf : Bool) (n k : Int) (w : World)

end
end Go.Proofs.Ytoabpjdpdcpdlaa
