/- copy of bytes into a row of our own; rows that are made; slices of a row of our own. No statement of the seat is proved here. -/
import Derived.Test.YtbbglgfgelnncaaRecRef5
import Derived.Test.YtbbglgfgelnncaaGenStep
import Derived.Deep.RegionLaw
namespace Go.Proofs.Ytbbglgfgelnncaa
open Go.RowKit

/-- copy as one step of a region that draws its order, its run laid. -/
theorem step_copy_run {P : Program} {ops : Array Oper} {op : Oper} {a : Act} {w W' : World} {K : Act → World → Prop} {Q : Exit → Act → World → Prop} {E : Prop} (hgd : op.guard = none) (d s : Operand) (dT sT : TypeId)
    (ho : op.op = .call { callee := .builtin .copy, args := #[d, s], argTypes := #[dT, sT] }) (dv sv v : Value) (hd : a.eval d = dv) (hs : a.eval s = sv)
    (hrun : (Builtin.copy_ #[dT, sT] op.type #[dv, sv]).run P w = .ok v W') (h : K (a.put op.dst v) W') :
    if Region.wanted op (yielded ops a.tmps) = true then Oper.wp P op a w K Q else E := by
  have hw : Region.wanted op (yielded ops a.tmps) = true := by simp [Region.wanted, hgd]
  rw [if_pos hw]
  unfold Oper.wp
  simp [execOp, ho, resolve, invoke, builtin, hd, hs, hrun, Result.andThen]
  exact h

/-- A row with other bytes from place o on. -/
def overAt (bs : List UInt8) : Nat → List UInt8 → List UInt8
  | _, [] => bs
  | o, x :: xs => overAt (bs.set o x) (o + 1) xs
theorem overAt_behind (p q : List UInt8) : ∀ (xs : List UInt8), q.length = xs.length → overAt (p ++ q) p.length xs = p ++ xs := by
  intro xs
  induction xs generalizing p q with
  | nil => intro h; rw [List.eq_nil_of_length_eq_zero h]; rfl
  | cons x xs ih =>
    intro h
    match q, h with
    | y :: q, h =>
      have e : (p ++ y :: q).set p.length x = (p ++ [x]) ++ q := by
        rw [List.set_append_right _ _ (Nat.le_refl _), Nat.sub_self]
        simp
      rw [overAt, e]
      have h2 := ih (p ++ [x]) q (by simpa using h)
      rw [List.length_append, List.length_singleton] at h2
      rw [h2]
      simp

theorem Own.put {w0 W : World} {g N C : Nat} {bs : List UInt8} (h : Own w0 (.slice (some ⟨g, 0, none⟩) N C) bs W) (hl : bs.length = N) {k : Nat} (hk : k < N) :
    (∃ x, W.cell? ⟨g, k, none⟩ = some (.int .u8 x)) ∧ W.frozen? ⟨g, k, none⟩ = false ∧ ∀ y : Nat, y < 256 → Own w0 (.slice (some ⟨g, 0, none⟩) N C) (bs.set k (UInt8.ofNat y)) (W.setCell ⟨g, k, none⟩ (.int .u8 ((y : Nat) : Int))) := by
  obtain ⟨b, e, hc, hf, hs⟩ := own_at h.own hl hk
  simp only [Option.some.injEq, Addr.mk.injEq, and_true] at e
  subst e
  refine ⟨⟨_, hc⟩, hf, fun y hy => ⟨?_, h.new, h.bb.setCell (p := ⟨g, k, none⟩) (h.new g rfl) _⟩⟩
  have h2 := hs (UInt8.ofNat y)
  rw [u8_of y hy] at h2
  exact h2

/-- Bytes are copied into a row of our own. -/
theorem Own.copy {w0 : World} {g N C : Nat} : ∀ (xs bs : List UInt8) (o : Nat) (W : World), Own w0 (.slice (some ⟨g, 0, none⟩) N C) bs W → bs.length = N → o + xs.length ≤ N → Own w0 (.slice (some ⟨g, 0, none⟩) N C) (overAt bs o xs) (W.setCells g o (xs.map bv))
  | [], _, _, _, h, _, _ => h
  | x :: xs, bs, o, W, h, hl, ho => by
    rw [List.length_cons] at ho
    obtain ⟨_, _, hp⟩ := h.put hl (k := o) (by omega)
    have h2 := hp x.toNat x.toNat_lt
    rw [UInt8.ofNat_toNat] at h2
    exact Own.copy xs (bs.set o x) (o + 1) (W.setCell ⟨g, o, none⟩ (bv x)) h2 (by rw [List.length_set]; exact hl) (by omega)
theorem Own.there {w0 W : World} {g N C : Nat} {bs : List UInt8} (h : Own w0 (.slice (some ⟨g, 0, none⟩) N C) bs W) (hl : bs.length = N) {o n : Nat} (hk : o + n ≤ N) : W.there g o n := fun j hj => by
  obtain ⟨⟨x, hc⟩, hf, _⟩ := h.put hl (k := o + j) (by omega)
  exact ⟨by rw [hc]; rfl, hf⟩

/-- make of bytes. -/
theorem makeBytes (n : Nat) (hn : n ≤ 1048576) : ∃ Z : Array Value, Z = ((List.replicate n (0 : UInt8)).map bv).toArray ∧ ∀ W : World, (Instr.makeSlice 23 (.int .i64 (n : Int)) (.int .i64 (n : Int))).run Try.prog W = .ok (.slice (some ⟨W.heap.size, 0, none⟩) n n) (W.alloc (.cells Z 5)) := by
  obtain ⟨i, hi, hz0, hz1, hz2⟩ := infoByte
  refine ⟨madeCells (Value.int .u8 0).cells (Int.toNat n * i.size), ?_, fun W => ?_⟩
  · rw [hz1, Nat.mul_one, Int.toNat_natCast]
    apply Array.ext'
    rw [List.map_replicate]
    exact toList_madeCells_one _ _
  · have := run_make (P := Try.prog) W 23 5 i (.int .u8 0) Try.underlying23 hi hz0 .i64 .i64 n n (by omega) (by omega) (by rw [hz2]; omega) (by omega)
    simpa using this
theorem Own.made (w : World) {n : Nat} {Z : Array Value} (hZ : Z = ((List.replicate n (0 : UInt8)).map bv).toArray) (hn : n ≤ 1048576) : Own w (.slice (some ⟨w.heap.size, 0, none⟩) n n) (List.replicate n (0 : UInt8)) (w.alloc (.cells Z 5)) := by
  refine ⟨⟨by simp, .inr ⟨w.heap.size, n, Z, by simp, Nat.zero_le _, heap_alloc_new w _, by simp, by unfold maxLen; omega, by rw [hZ]; simp, ?_⟩⟩, fun k hk => by simp [Value.ownBlock] at hk; omega, (Below.refl _ w).alloc (Nat.le_refl _) _⟩
  rw [hZ]
  simp

/-- b[l:] of a row of our own, where its address is wanted. -/
theorem slice_row (g N C l : Nat) (hl : l < C) (hlN : l ≤ N) : (∀ W : World, (Instr.slice 23 (.slice (some ⟨g, 0, none⟩) N C) (some (.int .i64 (l : Nat))) none none).run Try.prog W = .ok (.slice (some ⟨g, l, none⟩) (N - l) (C - l)) W) ∧ (∀ W : World, (Instr.sliceAt 23 (.slice (some ⟨g, 0, none⟩) N C) (some (.int .i64 (l : Nat))) none none).run Try.prog W = .ok (.slice (some ⟨g, l, none⟩) (N - l) (C - l)) W) := by
  have hu : Try.prog.underlying 23 = some (.slice 5) := Try.underlying23
  have hel : Try.prog.elem 23 = 5 := by unfold Program.elem; rw [hu]
  have hu' : Try.prog.underlying 23 = some (.slice (Try.prog.elem 23)) := by rw [hel]; exact hu
  have hr : ∀ W : World, (Instr.slice 23 (.slice (some ⟨g, 0, none⟩) N C) (some (.int .i64 (l : Nat))) none none).run Try.prog W = .ok (.slice (some ⟨g, l, none⟩) (N - l) (C - l)) W := fun W => by
    rw [run_slice_l W 23 (some ⟨g, 0, none⟩) N C hu' .i64 l (by omega) (by omega), hel]
    have hsz : (sizeOf 5).run Try.prog W = .ok 1 W := by simp [sizeOf]; rfl
    rw [hsz]
    simp only [Result.andThen, sliced, Int.toNat_natCast, Nat.mul_one, if_neg (show ¬ C = l by omega), Option.map_some, Addr.add_mid, Nat.zero_add]
  exact ⟨hr, fun W => by rw [run_sliceAt_slice W _ _ _ _ _ hu']; exact hr W⟩
/-- Bytes are copied behind place l of a row of our own. -/
theorem copy_behind {w0 W : World} {G N l : Nat} {bs xs : List UInt8} {a : Option Addr} {n c : Nat} (h : Own w0 (.slice (some ⟨G, 0, none⟩) N N) bs W) (hl : bs.length = N) (hN : N = l + n) (hx : Bytes W (.slice a n c) xs) (ty : TypeId) :
    ∃ dv, (∀ X : World, (Instr.slice 23 (.slice (some ⟨G, 0, none⟩) N N) (some (.int .i64 (l : Nat))) none none).run Try.prog X = .ok (.slice (some dv) (N - l) (N - l)) X) ∧ (∀ X : World, (Instr.sliceAt 23 (.slice (some ⟨G, 0, none⟩) N N) (some (.int .i64 (l : Nat))) none none).run Try.prog X = .ok (.slice (some dv) (N - l) (N - l)) X) ∧
      (Builtin.copy_ #[23, 23] ty #[.slice (some dv) (N - l) (N - l), .slice a n c]).run Try.prog W = .ok (goInt n) (W.setCells G l (xs.map bv)) ∧ Own w0 (.slice (some ⟨G, 0, none⟩) N N) (overAt bs l xs) (W.setCells G l (xs.map bv)) := by
  obtain ⟨hxl, _⟩ := bytes_len hx
  have hfin := h.copy xs bs l W hl (by omega)
  by_cases h0 : n = 0
  · subst h0
    have hx0 : xs = [] := List.eq_nil_of_length_eq_zero hxl
    subst hx0
    have hNl : N = l := by omega
    have hu : Try.prog.underlying 23 = some (.slice 5) := Try.underlying23
    have hel : Try.prog.elem 23 = 5 := by unfold Program.elem; rw [hu]
    have hu' : Try.prog.underlying 23 = some (.slice (Try.prog.elem 23)) := by rw [hel]; exact hu
    have hr : ∀ X : World, (Instr.slice 23 (.slice (some ⟨G, 0, none⟩) N N) (some (.int .i64 (l : Nat))) none none).run Try.prog X = .ok (.slice (some ⟨G, 0, none⟩) (N - l) (N - l)) X := fun X => by
      rw [run_slice_l X 23 (some ⟨G, 0, none⟩) N N hu' .i64 l (by omega) (by omega), hel]
      have hsz : (sizeOf 5).run Try.prog X = .ok 1 X := by simp [sizeOf]; rfl
      rw [hsz]
      simp only [Result.andThen, sliced, Int.toNat_natCast, Nat.mul_one, if_pos hNl]
    refine ⟨⟨G, 0, none⟩, hr, fun X => by rw [run_sliceAt_slice X _ _ _ _ _ hu']; exact hr X, ?_, hfin⟩
    rw [run_copy_none W _ _ ty 5 _ _ _ _ _ _ hu infoByteSize (by show min 0 _ = 0; omega)]
    rfl
  · obtain ⟨q, q'⟩ := slice_row G N N l (by omega) (by omega)
    rcases hx with ⟨hv, hb⟩ | ⟨ad, c', hv, hl1, hl2, hr⟩
    · rw [hb] at hxl
      exact absurd hxl.symm h0
    · simp only [Value.slice.injEq] at hv
      obtain ⟨rfl, _, rfl⟩ := hv
      refine ⟨⟨G, l, none⟩, q, q', ?_, hfin⟩
      have ht := h.there hl (o := l) (n := n) (by omega)
      have := run_copy_cells (P := Try.prog) W 23 23 ty 5 G l (N - l) (N - l) ad n c (xs.map bv) Try.underlying23 infoByteSize (by rw [List.length_map, hxl]; show n = min n _; omega) hr (fun j hj => (ht j (by rw [List.length_map, hxl] at hj; exact hj)).1) (fun j hj => (ht j (by rw [List.length_map, hxl] at hj; exact hj)).2) (bv_one _)
      rw [List.length_map, hxl] at this
      exact this
end Go.Proofs.Ytbbglgfgelnncaa
