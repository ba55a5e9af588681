/- Slices of slices that are ours: what is appended to them. Our own definitions; no statement of the seat is proved here. -/
import Derived.Test.YtbbglgfgelnncaaRowsOwn
namespace Go.Proofs.Ytbbglgfgelnncaa
open Go.RowKit

/-- A slice of ours, of things that were there in w. -/
structure HeadsO {α : Type} (E : World → Value → α → Prop) (e : TypeId) (w : World) (v : Value) (xs : List α) (W : World) : Prop where
  own : ∃ vs, W.ownsRow w.heap.size e 1 v xs.length vs ∧ ∀ (i : Nat) x, xs[i]? = some x → ∃ u, vs[i]? = some u ∧ E w u x
  bb : Below w.heap.size w W
section
variable {α : Type} {E : World → Value → α → Prop} {e : TypeId} {w W W' : World} {v : Value} {xs : List α}
theorem HeadsO.start : HeadsO E e w (.slice none 0 0) [] w := ⟨⟨[], World.ownsRow_nil _ _ _ _, fun i x hx => (by cases hx)⟩, Below.refl _ w⟩
/-- The empty literal. -/
theorem HeadsO.lit (E : World → Value → α → Prop) (e : TypeId) (w : World) : HeadsO E e w (.slice (some ⟨w.heap.size, 0, none⟩) 0 0) [] (w.alloc (.cells #[] e)) :=
  ⟨⟨[], ⟨by simp, .inr ⟨w.heap.size, 0, #[], rfl, Nat.le_refl _, heap_alloc_new w _, Nat.le_refl _, by decide, rfl, by simp⟩⟩, fun i x hx => (by cases hx)⟩, (Below.refl _ w).alloc (Nat.le_refl _) _⟩
/-- A literal of one. -/
theorem HeadsO.lit1 {u : Value} {x : α} (hE : E w u x) : HeadsO E e w (.slice (some ⟨w.heap.size, 0, none⟩) 1 1) [x] (w.alloc (.cells #[u] e)) := by
  refine ⟨⟨[u], ⟨by simp, .inr ⟨w.heap.size, 1, #[u], rfl, Nat.le_refl _, heap_alloc_new w _, Nat.le_refl _, by decide, rfl, by simp⟩⟩, fun i y hy => ?_⟩, (Below.refl _ w).alloc (Nat.le_refl _) _⟩
  match i, hy with
  | 0, hy => cases hy; exact ⟨u, rfl, hE⟩
theorem HeadsO.later (h : HeadsO E e w v xs W) (hb : Below W.heap.size W W') : HeadsO E e w v xs W' := by
  obtain ⟨⟨vs, h1, h2⟩, h3⟩ := h
  exact ⟨⟨vs, row_keeps h1 fun k hk => hb.block k (h1.lt k hk).2, h2⟩, h3.trans (hb.mono h3.size)⟩
theorem HeadsO.form (h : HeadsO E e w v xs W) : ∃ a c, v = .slice a xs.length c := by
  obtain ⟨⟨vs, h1, _⟩, _⟩ := h
  rcases h1.2 with ⟨rfl, h0⟩ | ⟨g, cap, cur, rfl, _⟩
  · exact ⟨_, _, by rw [h0]⟩
  · exact ⟨_, _, rfl⟩
theorem HeadsO.listAt (hE : ∀ {w w' : World} {v : Value} {x : α}, E w v x → Below w.heap.size w w' → E w' v x) (h : HeadsO E e w v xs W) : ListAt E W v xs := by
  obtain ⟨⟨vs, h1, h2⟩, hb⟩ := h
  rcases h1.2 with ⟨rfl, h0⟩ | ⟨g, cap, cur, rfl, _, _, h4, _⟩
  · exact .inl ⟨⟨_, _, rfl⟩, List.eq_nil_of_length_eq_zero h0⟩
  · refine .inr ⟨g, 0, cap, rfl, h4, fun i x hx => ?_⟩
    obtain ⟨u, e1, e2⟩ := h2 i x hx
    have hc := h1.cells (g := g) rfl _ _ e1
    rw [Addr.add_mid] at hc
    exact ⟨u, hc, hE e2 hb⟩
end

/-- The cells of a slice of one-cell things. -/
theorem ListAt.cells {α : Type} {E : World → Value → α → Prop} {w : World} {a : Option Addr} {n c : Nat} {ys : List α} (h : ListAt E w (.slice a n c) ys) (hl : ys.length = n) : ∃ us : List Value, us.length = ys.length ∧ (∀ (i : Nat) y, ys[i]? = some y → ∃ u, us[i]? = some u ∧ E w u y) ∧ (∀ u ∈ us, ∃ y, E w u y) ∧ (n = 0 ∨ ∃ ad, a = some ad ∧ ∀ j u, us[j]? = some u → w.cell? (ad.add j) = some u) := by
  rcases h with ⟨_, rfl⟩ | ⟨b, o, c', hv, _, hr⟩
  · exact ⟨[], rfl, fun i y hy => (by cases hy), fun u hu => (by cases hu), .inl hl.symm⟩
  · simp only [Value.slice.injEq] at hv
    obtain ⟨rfl, _, rfl⟩ := hv
    suffices hs : ∀ k, k ≤ ys.length → ∃ us : List Value, us.length = k ∧ (∀ (i : Nat) y, i < k → ys[i]? = some y → ∃ u, us[i]? = some u ∧ E w u y) ∧ (∀ u ∈ us, ∃ y, E w u y) ∧ (∀ j u, us[j]? = some u → w.cell? ⟨b, o + j, none⟩ = some u) by
      obtain ⟨us, h1, h2, h3, h4⟩ := hs ys.length (Nat.le_refl _)
      refine ⟨us, h1, fun i y hy => h2 i y (List.getElem?_eq_some_iff.1 hy).1 hy, h3, .inr ⟨_, rfl, fun j u hu => ?_⟩⟩
      rw [Addr.add_mid]
      exact h4 j u hu
    intro k
    induction k with
    | zero => exact fun _ => ⟨[], rfl, fun i y hi => by omega, fun u hu => (by cases hu), fun j u hu => (by cases hu)⟩
    | succ k ih =>
      intro hk
      obtain ⟨us, h1, h2, h3, h4⟩ := ih (by omega)
      obtain ⟨y, hy⟩ := some_get (xs := ys) (j := k) (by omega)
      obtain ⟨u, hu, hE⟩ := hr k y hy
      refine ⟨us ++ [u], by rw [List.length_append, h1]; rfl, fun i y' hi hy' => ?_, fun u' hu' => ?_, fun j u' hu' => ?_⟩
      · by_cases hik : i = k
        · subst hik
          rw [hy] at hy'
          cases hy'
          exact ⟨u, by rw [List.getElem?_append_right (by omega), h1, Nat.sub_self]; rfl, hE⟩
        · obtain ⟨u2, e1, e2⟩ := h2 i y' (by omega) hy'
          exact ⟨u2, by rw [List.getElem?_append_left (by omega)]; exact e1, e2⟩
      · rcases List.mem_append.1 hu' with e | e
        · exact h3 u' e
        · rw [List.mem_singleton.1 e]; exact ⟨y, hE⟩
      · by_cases hjk : j < us.length
        · rw [List.getElem?_append_left hjk] at hu'
          exact h4 j u' hu'
        · have hj2 := (List.getElem?_eq_some_iff.1 hu').1
          rw [List.length_append, List.length_singleton] at hj2
          have ej : j = k := by omega
          subst ej
          rw [List.getElem?_append_right (by omega), h1, Nat.sub_self] at hu'
          cases hu'
          exact hu

theorem ListAt.lift {α : Type} {E : World → Value → α → Prop} {w W : World} {u : Value} {xs : List α} (h : ListAt E w u xs) (hb : Below w.heap.size w W) : ListAt (fun _ => E w) W u xs := by
  rcases h with h | ⟨b, o, c, hv, hl, hr⟩
  · exact .inl h
  · refine .inr ⟨b, o, c, hv, hl, fun i x hx => ?_⟩
    obtain ⟨v, h1, h2⟩ := hr i x hx
    exact ⟨v, (hb.cell (p := ⟨b, o + i, none⟩) (World.block_lt_of_cell? _ _ h1)).trans h1, h2⟩
/-- One thing, in a block of its own. -/
theorem ListAt.one {α : Type} {E : World → Value → α → Prop} {w W : World} {u : Value} {x : α} {g : Nat} {t : TypeId} (hg : W.heap[g]? = some (.cells #[u] t (0, 0))) (h : E w u x) : ListAt (fun _ => E w) W (.slice (some ⟨g, 0, none⟩) 1 1) [x] := by
  refine .inr ⟨g, 0, 1, rfl, Nat.le_refl _, fun i y hy => ?_⟩
  match i, hy with
  | 0, hy =>
    cases hy
    exact ⟨u, cell_of_row _ _ 0 _ _ _ hg, h⟩

/-- A slice of things is appended to one of ours. -/
theorem wpList_append_headsW {α : Type} {E : World → Value → α → Prop} {w W : World} {ops : Array Oper} {rest : List Oper} {op : Oper} {a : Act} {Q : Exit → Act → World → Prop}
    (hg : op.guard = none) (s x : Operand) (t e : TypeId) (hop : op.op = Op.call { callee := Callee.builtin Builtin.append, args := #[s, x], argTypes := #[t, t] })
    (hu : Try.prog.underlying t = some (.slice e)) (hinfo : (Try.prog.info? e).map (fun i => (i.zero, i.size, i.bytes)) = some (some (.slice none 0 0), 1, 24)) (hone : ∀ u y, E w u y → u.oneCell' = true)
    (v : Value) (xs : List α) (hsv : a.eval s = v) (hO : HeadsO E e w v xs W) (ya : Option Addr) (n c : Nat) (ys : List α) (hx : a.eval x = .slice ya n c) (hY : ListAt (fun _ => E w) W (.slice ya n c) ys) (hl : xs.length + ys.length ≤ 4194304)
    (hK : ∀ v' W', HeadsO E e w v' (xs ++ ys) W' → wpList Try.prog ops Q rest (a.put op.dst v') W') :
    wpList Try.prog ops Q (op :: rest) a W := by
  obtain ⟨i, hi, hz, hs, hb⟩ := info_parts hinfo
  obtain ⟨⟨vs, h1, h2⟩, hbb⟩ := hO
  have hyl : ys.length = n := by obtain ⟨_, _, hv, _⟩ := hY.form; simp only [Value.slice.injEq] at hv; exact hv.2.1.symm
  obtain ⟨us, u1, u2, u3, u4⟩ := hY.cells hyl
  have hvl : vs.length = xs.length := by have := h1.1; omega
  refine wpList_plain hg fun K hK' => ?_
  have fin : ∀ (v' : Value) (W' : World), (Builtin.append_ #[t, t] op.type #[v, .slice ya n c]).run Try.prog W = .ok v' W' → HeadsO E e w v' (xs ++ ys) W' → op.wp Try.prog a W K Q := fun v' W' hrun h' => by
    unfold Oper.wp
    simp [execOp, hop, resolve, invoke, builtin, hsv, hx, hrun, Result.andThen]
    exact hK' _ _ (hK v' W' h')
  have both : ∀ (j : Nat) y, (xs ++ ys)[j]? = some y → ∃ u, (vs ++ us)[j]? = some u ∧ E w u y := fun j y hj => by
    by_cases hjx : j < xs.length
    · rw [List.getElem?_append_left hjx] at hj
      obtain ⟨u, e1, e2⟩ := h2 j y hj
      exact ⟨u, by rw [List.getElem?_append_left (by omega)]; exact e1, e2⟩
    · rw [List.getElem?_append_right (by omega)] at hj
      obtain ⟨u, e1, e2⟩ := u2 _ y hj
      exact ⟨u, by rw [List.getElem?_append_right (by omega), hvl]; exact e1, e2⟩
  cases ya with
  | none =>
    have hn0 : n = 0 := by
      rcases u4 with h | ⟨ad, h, _⟩
      · exact h
      · cases h
    have hy0 : ys = [] := List.eq_nil_of_length_eq_zero (by omega)
    subst hn0 hy0
    refine fin v W ?_ ⟨⟨vs, by rw [List.append_nil]; exact h1, by rw [List.append_nil]; exact h2⟩, hbb⟩
    rcases h1.2 with ⟨e1, e2⟩ | ⟨g, cap, cur, e1, _, _, hnc, _⟩
    · rw [e1]
      simp [Builtin.append_, run_underlying hu, sizeOf, typeInfo, hi, Builtin.lenOf, Builtin.firstCells]
    · rw [e1]
      simp [Builtin.append_, run_underlying hu, sizeOf, typeInfo, hi, Builtin.lenOf, Builtin.firstCells, hnc, storeCells]
  | some ad =>
    have hc : ∀ j u, us[j]? = some u → W.cell? (ad.add j) = some u := fun j u hj => by
      rcases u4 with h | ⟨ad', h, h'⟩
      · rw [List.eq_nil_of_length_eq_zero (by omega : us.length = 0)] at hj; cases hj
      · cases h
        exact h' j u hj
    obtain ⟨v', W', hrun, r1, r2, _⟩ := run_append_own (P := Try.prog) W w.heap.size t op.type e i (.slice none 0 0) 1 24 hu hi hz hs hb rfl (by decide) v xs.length vs h1 ad n c us (by omega) hc (fun u hu' => by obtain ⟨y, hy⟩ := u3 u hu'; exact hone u y hy) (by unfold maxLen; omega) (by omega) hbb.size
    refine fin v' W' hrun ⟨⟨vs ++ us, by rw [List.length_append, hyl]; exact r1, both⟩, ?_⟩
    exact ⟨r2.os.trans hbb.os, r2.tape.trans hbb.tape, r2.output.trans hbb.output, Nat.le_trans hbb.size r2.size, fun k hk => (r2.block k (Nat.lt_of_lt_of_le hk hbb.size) (fun e => by have := (h1.lt k e.symm).1; omega)).trans (hbb.block k hk)⟩
theorem wpList_append_heads {α : Type} {E : World → Value → α → Prop} {w W : World} {ops : Array Oper} {rest : List Oper} {op : Oper} {a : Act} {Q : Exit → Act → World → Prop}
    (hg : op.guard = none) (s x : Operand) (t e : TypeId) (hop : op.op = Op.call { callee := Callee.builtin Builtin.append, args := #[s, x], argTypes := #[t, t] })
    (hu : Try.prog.underlying t = some (.slice e)) (hinfo : (Try.prog.info? e).map (fun i => (i.zero, i.size, i.bytes)) = some (some (.slice none 0 0), 1, 24)) (hone : ∀ u y, E w u y → u.oneCell' = true)
    (v : Value) (xs : List α) (hsv : a.eval s = v) (hO : HeadsO E e w v xs W) (ya : Option Addr) (n c : Nat) (ys : List α) (hx : a.eval x = .slice ya n c) (hY : ListAt E w (.slice ya n c) ys) (hl : xs.length + ys.length ≤ 4194304)
    (hK : ∀ v' W', HeadsO E e w v' (xs ++ ys) W' → wpList Try.prog ops Q rest (a.put op.dst v') W') :
    wpList Try.prog ops Q (op :: rest) a W :=
  wpList_append_headsW hg s x t e hop hu hinfo hone v xs hsv hO ya n c ys hx (hY.lift hO.bb) hl hK

/-- Rows of bytes, all of it new since w. -/
structure OwnRows (w : World) (v : Value) (rows : List (List UInt8)) (W : World) : Prop where
  own : ∃ vs, W.ownsRow w.heap.size 23 1 v rows.length vs ∧ ∀ (i : Nat) x, rows[i]? = some x → ∃ u, vs[i]? = some u ∧ Own w u x W
  bb : Below w.heap.size w W
theorem OwnRows.start (w : World) : OwnRows w (.slice none 0 0) [] w := ⟨⟨[], World.ownsRow_nil _ _ _ _, fun i x hx => (by cases hx)⟩, Below.refl _ w⟩
theorem OwnRows.later {w W W' : World} {v : Value} {rows : List (List UInt8)} (h : OwnRows w v rows W) (hb : Below W.heap.size W W') : OwnRows w v rows W' := by
  obtain ⟨⟨vs, h1, h2⟩, h3⟩ := h
  exact ⟨⟨vs, row_keeps h1 fun k hk => hb.block k (h1.lt k hk).2, fun i x hx => by obtain ⟨u, e1, e2⟩ := h2 i x hx; exact ⟨u, e1, e2.later hb⟩⟩, h3.trans (hb.mono h3.size)⟩
theorem OwnRows.form {w W : World} {v : Value} {rows : List (List UInt8)} (h : OwnRows w v rows W) : ∃ a c, v = .slice a rows.length c := by
  obtain ⟨⟨vs, h1, _⟩, _⟩ := h
  rcases h1.2 with ⟨rfl, h0⟩ | ⟨g, cap, cur, rfl, _⟩
  · exact ⟨_, _, by rw [h0]⟩
  · exact ⟨_, _, rfl⟩
theorem OwnRows.rowsAt {w W : World} {v : Value} {rows : List (List UInt8)} (h : OwnRows w v rows W) : RowsAt W v rows := by
  obtain ⟨⟨vs, h1, h2⟩, hb⟩ := h
  rcases h1.2 with ⟨rfl, h0⟩ | ⟨g, cap, cur, rfl, _, _, h4, _⟩
  · exact .inl ⟨⟨_, _, rfl⟩, List.eq_nil_of_length_eq_zero h0⟩
  · refine .inr ⟨g, 0, cap, rfl, h4, fun i x hx => ?_⟩
    obtain ⟨u, e1, e2⟩ := h2 i x hx
    have hc := h1.cells (g := g) rfl _ _ e1
    rw [Addr.add_mid] at hc
    exact ⟨u, hc, bytes_of_owns e2.own⟩
theorem Own.one {w W : World} {u : Value} {x : List UInt8} (h : Own w u x W) : u.oneCell' = true := by
  rcases h.own.2 with ⟨rfl, _⟩ | ⟨g, cap, cur, rfl, _⟩ <;> rfl
/-- Behind what leaves rows of bytes alone. -/
theorem Own.keepT {w W W' : World} {u : Value} {x : List UInt8} (h : Own w u x W) (hb : Below w.heap.size w W') (hk : ∀ (k : Nat) (cs : Array Value) (f : Nat × Nat), W.heap[k]? = some (Obj.cells cs 5 f) → W'.heap[k]? = W.heap[k]?) : Own w u x W' := by
  refine ⟨own_keeps h.own fun k hk' => ?_, h.new, hb⟩
  rcases h.own.2 with ⟨e, _⟩ | ⟨g, cap, cur, e, _, h5, _⟩
  · rw [e] at hk'; cases hk'
  · rw [e] at hk'
    have e' : g = k := by simpa [Value.ownBlock] using hk'
    subst e'
    exact hk _ _ _ h5
/-- A row of ours is appended to rows of ours. -/
theorem wpList_append_ownrow {w W : World} {ops : Array Oper} {rest : List Oper} {op : Oper} {a : Act} {Q : Exit → Act → World → Prop}
    (hg : op.guard = none) (s x : Operand) (hop : op.op = Op.call { callee := Callee.builtin Builtin.append, args := #[s, x], argTypes := #[22, 22] })
    (v : Value) (rows : List (List UInt8)) (r : List UInt8) (u : Value) (g cap : Nat) (hsv : a.eval s = v) (hR : OwnRows w v rows W) (hx : a.eval x = .slice (some ⟨g, 0, none⟩) 1 cap)
    (h0 : W.cell? ⟨g, 0, none⟩ = some u) (hO : Own w u r W) (hl : rows.length ≤ 1048576)
    (hK : ∀ v' W', OwnRows w v' (rows ++ [r]) W' → wpList Try.prog ops Q rest (a.put op.dst v') W') :
    wpList Try.prog ops Q (op :: rest) a W := by
  obtain ⟨i, hi, hz, hs, hb⟩ := info_parts infoRow0
  obtain ⟨⟨vs, hrow, hcells⟩, hbb⟩ := hR
  refine wpList_plain hg fun K hK' => ?_
  obtain ⟨v', W', hrun, r1, r2, _⟩ := run_append_own (P := Try.prog) W w.heap.size 22 op.type 23 i (.slice none 0 0) 1 24 Try.underlying22 hi hz hs hb rfl (by decide) v rows.length vs hrow ⟨g, 0, none⟩ 1 cap [u] rfl
    (fun j u' hj => by
      match j, hj with
      | 0, hj => cases hj; exact h0)
    (fun u' hu => by rw [List.mem_singleton.1 hu]; exact hO.one)
    (by unfold maxLen; omega) (by omega) hbb.size
  have hb' : Below w.heap.size w W' := ⟨r2.os.trans hbb.os, r2.tape.trans hbb.tape, r2.output.trans hbb.output, Nat.le_trans hbb.size r2.size, fun k hk => (r2.block k (Nat.lt_of_lt_of_le hk hbb.size) (fun e => by have := (hrow.lt k e.symm).1; omega)).trans (hbb.block k hk)⟩
  have hkp : ∀ (k : Nat) (cs : Array Value) (f : Nat × Nat), W.heap[k]? = some (Obj.cells cs 5 f) → W'.heap[k]? = W.heap[k]? := fun k cs f hk => by
    refine r2.block k (Array.getElem?_eq_some_iff.1 hk).1 fun e => ?_
    rcases hrow.2 with ⟨e1, _⟩ | ⟨g2, _, _, e1, _, e3, _⟩
    · rw [e1] at e; cases e
    · rw [e1] at e
      have e' : k = g2 := by simpa [Value.ownBlock] using e
      subst e'
      rw [e3] at hk
      cases hk
  have hvl : vs.length = rows.length := by have := hrow.1; omega
  have hfin : OwnRows w v' (rows ++ [r]) W' := by
    refine ⟨⟨vs ++ [u], by rw [List.length_append]; exact r1, fun j y hj => ?_⟩, hb'⟩
    by_cases hjx : j < rows.length
    · rw [List.getElem?_append_left hjx] at hj
      obtain ⟨u', e1, e2⟩ := hcells j y hj
      exact ⟨u', by rw [List.getElem?_append_left (by omega)]; exact e1, e2.keepT hb' hkp⟩
    · have hj2 := (List.getElem?_eq_some_iff.1 hj).1
      rw [List.length_append, List.length_singleton] at hj2
      have ej : j = rows.length := by omega
      rw [ej, List.getElem?_append_right (Nat.le_refl _), Nat.sub_self] at hj
      cases hj
      exact ⟨u, by rw [ej, ← hvl, List.getElem?_append_right (Nat.le_refl _), Nat.sub_self]; rfl, hO.keepT hb' hkp⟩
  unfold Oper.wp
  simp [execOp, hop, resolve, invoke, builtin, hsv, hx, hrun, Result.andThen]
  exact hK' _ _ (hK v' W' hfin)
end Go.Proofs.Ytbbglgfgelnncaa
