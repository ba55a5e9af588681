/- All the records of bytes; rows of records that are ours. Our own definitions; no statement of the seat is proved here. -/
import Derived.Test.YtbbglgfgelnncaaRecRef4
import Derived.Test.YtbbglgfgelnncaaRecPure
namespace Go.Proofs.Ytbbglgfgelnncaa
open Go.RowKit

/-- A record's two cells. -/
def recCells (r : RecD) (v : Value) : List Value := [.int .u8 (r.k.toNat : Nat), v]
/-- Records' cells, their data in blocks that are new since w. -/
inductive Cells (w W : World) : List RecD → List Value → Prop
  | nil : Cells w W [] []
  | snoc {rs : List RecD} {xs : List Value} {r : RecD} {a : Option Addr} {n c : Nat} (h : Cells w W rs xs) (ho : Own w (.slice a n c) r.d W) : Cells w W (rs ++ [r]) (xs ++ recCells r (.slice a n c))

theorem Cells.to {w W W' : World} {rs : List RecD} {xs : List Value} (h : Cells w W rs xs) (hb : Below w.heap.size w W') (hk : ∀ (k : Nat) (cs : Array Value) (f : Nat × Nat), W.heap[k]? = some (Obj.cells cs 5 f) → W'.heap[k]? = W.heap[k]?) : Cells w W' rs xs := by
  induction h with
  | nil => exact .nil
  | snoc h ho ih =>
    refine .snoc ih ⟨own_keeps ho.own fun k hk' => ?_, ho.new, hb⟩
    rcases ho.own.2 with ⟨h1, _⟩ | ⟨g, cap, cur, h1, _, h3, _⟩
    · rw [h1] at hk'; cases hk'
    · rw [h1] at hk'
      have e : g = k := by simpa [Value.ownBlock] using hk'
      subst e
      exact hk _ _ _ h3
theorem Cells.len {w W : World} {rs : List RecD} {xs : List Value} (h : Cells w W rs xs) : xs.length = 2 * rs.length := by
  induction h with
  | nil => rfl
  | snoc h ho ih => rw [List.length_append, List.length_append, ih]; show _ + 2 = 2 * (_ + 1); omega
theorem Cells.at {w W : World} {rs : List RecD} {xs : List Value} (h : Cells w W rs xs) {i : Nat} (hi : i < rs.length) : ∃ a n c, xs[2 * i]? = some (.int .u8 ((rs.getD i ⟨0, []⟩).k.toNat : Nat)) ∧ xs[2 * i + 1]? = some (.slice a n c) ∧ Own w (.slice a n c) (rs.getD i ⟨0, []⟩).d W := by
  induction h with
  | nil => simp at hi
  | @snoc rs xs r a n c h ho ih =>
    have hl := h.len
    rw [List.length_append] at hi
    by_cases hlt : i < rs.length
    · obtain ⟨a', n', c', h1, h2, h3⟩ := ih hlt
      have e : (rs ++ [r]).getD i ⟨0, []⟩ = rs.getD i ⟨0, []⟩ := by rw [List.getD_eq_getElem?_getD, List.getD_eq_getElem?_getD, List.getElem?_append_left hlt]
      rw [e]
      exact ⟨a', n', c', by rw [List.getElem?_append_left (by omega)]; exact h1, by rw [List.getElem?_append_left (by omega)]; exact h2, h3⟩
    · have ei : i = rs.length := by simp at hi; omega
      subst ei
      have e : (rs ++ [r]).getD rs.length ⟨0, []⟩ = r := by rw [List.getD_eq_getElem?_getD, List.getElem?_append_right (Nat.le_refl _), Nat.sub_self]; rfl
      rw [e]
      refine ⟨a, n, c, ?_, ?_, ho⟩
      · rw [List.getElem?_append_right (by omega), hl, Nat.sub_self]; rfl
      · rw [List.getElem?_append_right (by omega), hl, show 2 * rs.length + 1 - 2 * rs.length = 1 by omega]; rfl

/-- A row of records, all of it new since w. -/
structure RecsO (w : World) (v : Value) (rs : List RecD) (W : World) : Prop where
  row : ∃ xs, W.ownsRow w.heap.size 49 2 v rs.length xs ∧ Cells w W rs xs
  bb : Below w.heap.size w W

theorem RecsO.start (w : World) : RecsO w (.slice none 0 0) [] w := ⟨⟨[], World.ownsRow_nil _ _ _ _, .nil⟩, Below.refl _ w⟩
theorem row_keeps {W W' : World} {base size : Nat} {e : TypeId} {v : Value} {n : Nat} {xs : List Value} (h : W.ownsRow base e size v n xs) (hk : ∀ k, v.ownBlock = some k → W'.heap[k]? = W.heap[k]?) : W'.ownsRow base e size v n xs := by
  refine ⟨h.1, ?_⟩
  rcases h.2 with h | ⟨g, cap, cur, h1, h2, h3, h4⟩
  · exact .inl h
  · exact .inr ⟨g, cap, cur, h1, h2, by rw [hk g (by rw [h1]; rfl)]; exact h3, h4⟩
theorem RecsO.later {w W W' : World} {v : Value} {rs : List RecD} (h : RecsO w v rs W) (hb : Below W.heap.size W W') : RecsO w v rs W' := by
  obtain ⟨⟨xs, h1, h2⟩, h3⟩ := h
  have hb' := h3.trans (hb.mono h3.size)
  exact ⟨⟨xs, row_keeps h1 fun k hk => hb.block k (h1.lt k hk).2, h2.to hb' fun k cs f hk => hb.block k (Array.getElem?_eq_some_iff.1 hk).1⟩, hb'⟩
theorem RecsO.recsAt {w W : World} {v : Value} {rs : List RecD} (h : RecsO w v rs W) : RecsAt W v rs := by
  obtain ⟨⟨xs, h1, h2⟩, _⟩ := h
  rcases h1.2 with ⟨rfl, h0⟩ | ⟨g, cap, cur, rfl, _, h3, h4, _⟩
  · exact .inl ⟨⟨_, _, rfl⟩, List.eq_nil_of_length_eq_zero h0⟩
  · refine .inr ⟨g, 0, cap, rfl, h4, fun i hi => ?_⟩
    obtain ⟨a, n, c, e1, e2, e3⟩ := h2.at hi
    have hc := h1.cells (g := g) rfl
    refine ⟨a, n, c, ?_, ?_, bytes_of_owns e3.own⟩
    · have := hc _ _ e1; rwa [Addr.add_mid] at this
    · have := hc _ _ e2; rwa [Addr.add_mid] at this

theorem infoRec0 : (Try.prog.info? 49).map (fun i => (i.zero.map (·.cells.size), i.size, i.bytes)) = some (some 2, 2, 32) := by kernel_rfl
theorem infoRec : ∃ i z, Try.prog.info? 49 = some i ∧ i.zero = some z ∧ i.size = 2 ∧ i.bytes = 32 ∧ z.cells.size = 2 := by
  have h := infoRec0
  cases hi : Try.prog.info? 49 with
  | none => rw [hi] at h; cases h
  | some i =>
    rw [hi] at h
    simp only [Option.map_some, Option.some.injEq, Prod.mk.injEq] at h
    cases hz : i.zero with
    | none => rw [hz] at h; cases h.1
    | some z => rw [hz] at h; simp only [Option.map_some, Option.some.injEq] at h; exact ⟨i, z, rfl, hz, h.2.1, h.2.2, h.1⟩

/-- A record is appended to a row of ours. -/
theorem wpList_append_rec {w W : World} {ops : Array Oper} {rest : List Oper} {op : Oper} {a : Act} {Q : Exit → Act → World → Prop}
    (hg : op.guard = none) (s x : Operand) (hop : op.op = Op.call { callee := Callee.builtin Builtin.append, args := #[s, x], argTypes := #[56, 56] })
    (v : Value) (rs : List RecD) (r : RecD) (a' : Option Addr) (n' c' g cap : Nat) (hsv : a.eval s = v) (hR : RecsO w v rs W) (hx : a.eval x = .slice (some ⟨g, 0, none⟩) 1 cap)
    (h0 : W.cell? ⟨g, 0, none⟩ = some (.int .u8 (r.k.toNat : Nat))) (h1 : W.cell? ⟨g, 1, none⟩ = some (.slice a' n' c')) (hO : Own w (.slice a' n' c') r.d W) (hl : rs.length ≤ 1048576)
    (hK : ∀ v' W', RecsO w v' (rs ++ [r]) W' → wpList Try.prog ops Q rest (a.put op.dst v') W') :
    wpList Try.prog ops Q (op :: rest) a W := by
  obtain ⟨i, z, hi, hz, hs, hb, hzs⟩ := infoRec
  obtain ⟨⟨xs, hrow, hcells⟩, hbb⟩ := hR
  refine wpList_plain hg fun K hK' => ?_
  obtain ⟨v', W', hrun, r1, r2, _⟩ := run_append_own (P := Try.prog) W w.heap.size 56 op.type 49 i z 2 32 Try.underlying56 hi hz hs hb hzs (by decide) v rs.length xs hrow ⟨g, 0, none⟩ 1 cap (recCells r (.slice a' n' c')) rfl
    (fun j u hj => by
      match j, hj with
      | 0, hj => cases hj; exact h0
      | 1, hj => cases hj; exact h1)
    (fun u hu => by
      have : u = .int .u8 (r.k.toNat : Nat) ∨ u = .slice a' n' c' := by simpa [recCells] using hu
      rcases this with rfl | rfl <;> rfl)
    (by unfold maxLen; omega) (by omega) hbb.size
  have hb' : Below w.heap.size w W' := ⟨r2.os.trans hbb.os, r2.tape.trans hbb.tape, r2.output.trans hbb.output, Nat.le_trans hbb.size r2.size, fun k hk => (r2.block k (Nat.lt_of_lt_of_le hk hbb.size) (fun e => by have := (hrow.lt k e.symm).1; omega)).trans (hbb.block k hk)⟩
  have hkp : ∀ (k : Nat) (cs : Array Value) (f : Nat × Nat), W.heap[k]? = some (Obj.cells cs 5 f) → W'.heap[k]? = W.heap[k]? := fun k cs f hk => by
    refine r2.block k (Array.getElem?_eq_some_iff.1 hk).1 fun e => ?_
    rcases hrow.2 with ⟨e1, _⟩ | ⟨g2, _, _, e1, _, e3, _⟩
    · rw [e1] at e; cases e
    · rw [e1] at e
      have e' : k = g2 := by simpa [Value.ownBlock] using e
      subst e'
      rw [e3] at hk
      cases hk
  have hfin : RecsO w v' (rs ++ [r]) W' := by
    refine ⟨⟨_, by rw [List.length_append]; exact r1, .snoc (hcells.to hb' hkp) ⟨own_keeps hO.own fun k hk => ?_, hO.new, hb'⟩⟩, hb'⟩
    rcases hO.own.2 with ⟨e1, _⟩ | ⟨g2, _, _, e1, _, e3, _⟩
    · rw [e1] at hk; cases hk
    · rw [e1] at hk
      have e' : g2 = k := by simpa [Value.ownBlock] using hk
      subst e'
      exact hkp _ _ _ e3
  unfold Oper.wp
  simp [execOp, hop, resolve, invoke, builtin, hsv, hx, hrun, Result.andThen]
  exact hK' _ _ (hK v' W' hfin)
end Go.Proofs.Ytbbglgfgelnncaa
