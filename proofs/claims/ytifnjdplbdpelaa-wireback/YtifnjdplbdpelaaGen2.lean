/- Slices of slices of bytes; three results. No statement of the seat is proved here. -/
import Derived.Test.YtifnjdplbdpelaaGen
namespace Go.Proofs.Ytifnjdplbdpelaa
open Go.RowKit

/-- b[l:h]: its value, whatever the world, and its bytes. -/
theorem slice_mid {w : World} {a : Option Addr} {n c l h : Nat} {bs : List UInt8} (hb : Bytes w (.slice a n c) bs) (h1 : l ≤ h) (h2 : h ≤ n) : ∃ sa sc, Bytes w (.slice sa (h - l) sc) ((bs.drop l).take (h - l)) ∧ (∀ W : World, (Instr.slice 22 (.slice a n c) (some (.int .i64 (l : Nat))) (some (.int .i64 (h : Nat))) none).run Try.prog W = .ok (.slice sa (h - l) sc) W) ∧ (∀ W : World, (Instr.sliceAt 22 (.slice a n c) (some (.int .i64 (l : Nat))) (some (.int .i64 (h : Nat))) none).run Try.prog W = .ok (.slice sa (h - l) sc) W) ∧ (∀ k, (Value.slice sa (h - l) sc).ownBlock = some k → (Value.slice a n c).ownBlock = some k) := by
  obtain ⟨hl, hnc⟩ := bytes_len hb
  have hu : Try.prog.underlying 22 = some (.slice 5) := Try.underlying22
  have hel : Try.prog.elem 22 = 5 := by unfold Program.elem; rw [hu]
  have hu' : Try.prog.underlying 22 = some (.slice (Try.prog.elem 22)) := by rw [hel]; exact hu
  have hr : ∀ W : World, (Instr.slice 22 (.slice a n c) (some (.int .i64 (l : Nat))) (some (.int .i64 (h : Nat))) none).run Try.prog W = .ok (.slice (if c = l then a else a.map (·.add l)) (h - l) (c - l)) W := fun W => by
    rw [run_slice_lh W 22 a n c hu' .i64 .i64 l h (by omega) (by omega) (by omega), hel]
    have hsz : (sizeOf 5).run Try.prog W = .ok 1 W := by simp [sizeOf]; rfl
    rw [hsz]
    simp only [Result.andThen, sliced, Int.toNat_natCast, Nat.mul_one]
  refine ⟨_, _, ?_, hr, fun W => by rw [run_sliceAt_slice W _ _ _ _ _ hu']; exact hr W, fun k hk => ?_⟩
  · have hdl : ((bs.drop l).take (h - l)).length = h - l := by rw [List.length_take, List.length_drop]; omega
    rcases hb with ⟨hv, hbn⟩ | ⟨ad, c', hv, hl1, hl2, hbb⟩
    · simp only [Value.slice.injEq] at hv
      obtain ⟨rfl, hn, rfl⟩ := hv
      have e1 : l = 0 := by omega
      have e2 : h = 0 := by omega
      subst e1 e2
      exact .inl ⟨by simp, by rw [hbn]; simp⟩
    · simp only [Value.slice.injEq] at hv
      obtain ⟨rfl, _, rfl⟩ := hv
      by_cases hc : c = l
      · rw [if_pos hc]
        have e0 : h - l = 0 := by omega
        rw [e0]
        exact .inr ⟨ad, c - l, rfl, Nat.zero_le _, by omega, fun j x hx => by simp at hx⟩
      · rw [if_neg hc]
        refine .inr ⟨ad.add l, c - l, by rw [hdl]; rfl, by rw [hdl]; omega, by omega, fun j x hx => ?_⟩
        have hj : j < h - l := by have := (List.getElem?_eq_some_iff.1 hx).1; rw [List.length_map, hdl] at this; exact this
        have := hbb (l + j) x (by rw [List.map_take, List.map_drop, List.getElem?_take, if_pos hj, List.getElem?_drop] at hx; exact hx)
        rwa [Addr.add_add]
  · split at hk
    · cases a <;> exact hk
    · cases a with
      | none => cases hk
      | some ad =>
        have e : (ad.add l).block = ad.block := add_block ad l
        have hk' : some (ad.add l).block = some k := hk
        rw [e] at hk'
        exact hk'

/-- b[:h]: its value, whatever the world, and its bytes. -/
theorem slice_to {w : World} {a : Option Addr} {n c h : Nat} {bs : List UInt8} (hb : Bytes w (.slice a n c) bs) (h1 : h ≤ n) : ∃ sa sc, Bytes w (.slice sa h sc) (bs.take h) ∧ (∀ W : World, (Instr.slice 22 (.slice a n c) none (some (.int .i64 (h : Nat))) none).run Try.prog W = .ok (.slice sa h sc) W) ∧ (∀ W : World, (Instr.sliceAt 22 (.slice a n c) none (some (.int .i64 (h : Nat))) none).run Try.prog W = .ok (.slice sa h sc) W) := by
  obtain ⟨hl, hnc⟩ := bytes_len hb
  obtain ⟨sa, sc, B, q, _, _⟩ := slice_mid (l := 0) (h := h) hb (Nat.zero_le _) h1
  have hu : Try.prog.underlying 22 = some (.slice 5) := Try.underlying22
  have hel : Try.prog.elem 22 = 5 := by unfold Program.elem; rw [hu]
  have hu' : Try.prog.underlying 22 = some (.slice (Try.prog.elem 22)) := by rw [hel]; exact hu
  have hr : ∀ W : World, (Instr.slice 22 (.slice a n c) none (some (.int .i64 (h : Nat))) none).run Try.prog W = .ok (.slice sa h sc) W := fun W => by
    have e1 := run_slice_h W 22 a n c hu' .i64 h (by omega) (by omega)
    have e2 := run_slice_lh W 22 a n c hu' .i64 .i64 (0 : Nat) h (by omega) (by omega) (by omega)
    have e3 := q W
    rw [e2] at e3
    rw [e1]
    exact e3
  exact ⟨sa, sc, B, hr, fun W => by rw [run_sliceAt_slice W _ _ _ _ _ hu']; exact hr W⟩

/-- A struct in a cell and two numbers in slots are handed back. -/
theorem results_ctt {P : Program} {fn : Func} {p u v : Tmp} {ty : TypeId} (h : fn.results = #[.cell p ty, .tmp u, .tmp v]) (tmps : Array Value) (w : World) (g : Nat) (t : TypeId) (cs : Array Value) (fr : Nat × Nat) (d : TypeDesc)
    (hp : tmps.getD p undef = .pointer (some ⟨g, 0, none⟩)) (hg : w.heap[g]? = some (.cells cs t fr))
    (hu : P.underlying ty = some d) (hd : (match d with | .struct _ | .array _ _ => true | _ => false) = true) (hi : (P.info? ty).map (·.size) = some cs.size) :
    (results fn tmps).run P w = .ok (.tuple #[.agg cs, tmps.getD u undef, tmps.getD v undef]) w := by
  have hp' : tmps[p]?.getD undef = .pointer (some ⟨g, 0, none⟩) := by simpa using hp
  simp only [results, h]
  simp [Result.andThen, hp', asAddr, run_loadVar_row w g t ty cs fr d hg hu hd hi]

/-- b[l:]: its value, whatever the world, and its bytes. -/
theorem slice_from {w : World} {a : Option Addr} {n c l : Nat} {bs : List UInt8} (hb : Bytes w (.slice a n c) bs) (h1 : l ≤ n) : ∃ sa sc, Bytes w (.slice sa (n - l) sc) (bs.drop l) ∧ (∀ W : World, (Instr.slice 22 (.slice a n c) (some (.int .i64 (l : Nat))) none none).run Try.prog W = .ok (.slice sa (n - l) sc) W) ∧ (∀ W : World, (Instr.sliceAt 22 (.slice a n c) (some (.int .i64 (l : Nat))) none none).run Try.prog W = .ok (.slice sa (n - l) sc) W) := by
  obtain ⟨hl, hnc⟩ := bytes_len hb
  obtain ⟨sa, sc, B, q, _, _⟩ := slice_mid (l := l) (h := n) hb h1 (Nat.le_refl _)
  have hu : Try.prog.underlying 22 = some (.slice 5) := Try.underlying22
  have hel : Try.prog.elem 22 = 5 := by unfold Program.elem; rw [hu]
  have hu' : Try.prog.underlying 22 = some (.slice (Try.prog.elem 22)) := by rw [hel]; exact hu
  have hr : ∀ W : World, (Instr.slice 22 (.slice a n c) (some (.int .i64 (l : Nat))) none none).run Try.prog W = .ok (.slice sa (n - l) sc) W := fun W => by
    have e1 := run_slice_l W 22 a n c hu' .i64 l (by omega) (by omega)
    have e2 := run_slice_lh W 22 a n c hu' .i64 .i64 l n (by omega) (by omega) (by omega)
    rw [← q W, e1, e2]
    rfl
  refine ⟨sa, sc, ?_, hr, fun W => by rw [run_sliceAt_slice W _ _ _ _ _ hu']; exact hr W⟩
  rwa [List.take_of_length_le (by rw [List.length_drop]; omega)] at B
end Go.Proofs.Ytifnjdplbdpelaa
