/- GenHeads, BatchImplScan, RecImplPut: our own definitions and contracts; no statement of the seat is proved here. -/
import Derived.Test.YtflfiobicapopaaBase06
import Derived.Test.YtflfiobicapopaaBase07
import Derived.Test.YtflfiobicapopaaBase05
namespace Go.Proofs.Ytflfiobicapopaa
open Go.RowKit

/-- A slice of ours, of things that were there in w. -/
structure HeadsO {α : Type} (E : World → Value → α → Prop) (e : TypeId) (w : World) (v : Value) (xs : List α) (W : World) : Prop where
  own : ∃ vs, W.ownsRow w.heap.size e 1 v xs.length vs ∧ ∀ (i : Nat) x, xs[i]? = some x → ∃ u, vs[i]? = some u ∧ E w u x
  bb : Below w.heap.size w W
section
variable {α : Type} {E : World → Value → α → Prop} {e : TypeId} {w W W' : World} {v : Value} {xs : List α}
theorem HeadsO.start : HeadsO E e w (.slice none 0 0) [] w := ⟨⟨[], World.ownsRow_nil _ _ _ _, fun i x hx => (by cases hx)⟩, Below.refl _ w⟩
/-- The empty literal. -/
theorem HeadsO.lit (E : World → Value → α → Prop) (e : TypeId) (w : World) : HeadsO E e w (.slice (some ⟨w.heap.size, 0, none⟩) 0 0) [] (w.alloc (.cells #[] e)) :=
  ⟨⟨[], ⟨by simp, .inr ⟨w.heap.size, 0, #[], rfl, Nat.le_refl _, heap_alloc_new w _, Nat.le_refl _, by decide, rfl, by simp⟩⟩, fun i x hx => (by cases hx)⟩, (Below.refl _ w).alloc (Nat.le_refl _) _⟩
/-- A literal of one. -/
theorem HeadsO.lit1 {u : Value} {x : α} (hE : E w u x) : HeadsO E e w (.slice (some ⟨w.heap.size, 0, none⟩) 1 1) [x] (w.alloc (.cells #[u] e)) := by
  refine ⟨⟨[u], ⟨by simp, .inr ⟨w.heap.size, 1, #[u], rfl, Nat.le_refl _, heap_alloc_new w _, Nat.le_refl _, by decide, rfl, by simp⟩⟩, fun i y hy => ?_⟩, (Below.refl _ w).alloc (Nat.le_refl _) _⟩
  match i, hy with
  | 0, hy => cases hy; exact ⟨u, rfl, hE⟩
theorem HeadsO.later (h : HeadsO E e w v xs W) (hb : Below W.heap.size W W') : HeadsO E e w v xs W' := by
  obtain ⟨⟨vs, h1, h2⟩, h3⟩ := h
  exact ⟨⟨vs, row_keeps h1 fun k hk => hb.block k (h1.lt k hk).2, h2⟩, h3.trans (hb.mono h3.size)⟩
theorem HeadsO.form (h : HeadsO E e w v xs W) : ∃ a c, v = .slice a xs.length c := by
  obtain ⟨⟨vs, h1, _⟩, _⟩ := h
  rcases h1.2 with ⟨rfl, h0⟩ | ⟨g, cap, cur, rfl, _⟩
  · exact ⟨_, _, by rw [h0]⟩
  · exact ⟨_, _, rfl⟩
theorem HeadsO.listAt (hE : ∀ {w w' : World} {v : Value} {x : α}, E w v x → Below w.heap.size w w' → E w' v x) (h : HeadsO E e w v xs W) : ListAt E W v xs := by
  obtain ⟨⟨vs, h1, h2⟩, hb⟩ := h
  rcases h1.2 with ⟨rfl, h0⟩ | ⟨g, cap, cur, rfl, _, _, h4, _⟩
  · exact .inl ⟨⟨_, _, rfl⟩, List.eq_nil_of_length_eq_zero h0⟩
  · refine .inr ⟨g, 0, cap, rfl, h4, fun i x hx => ?_⟩
    obtain ⟨u, e1, e2⟩ := h2 i x hx
    have hc := h1.cells (g := g) rfl _ _ e1
    rw [Addr.add_mid] at hc
    exact ⟨u, hc, hE e2 hb⟩
end

/-- The cells of a slice of one-cell things. -/
theorem ListAt.cells {α : Type} {E : World → Value → α → Prop} {w : World} {a : Option Addr} {n c : Nat} {ys : List α} (h : ListAt E w (.slice a n c) ys) (hl : ys.length = n) : ∃ us : List Value, us.length = ys.length ∧ (∀ (i : Nat) y, ys[i]? = some y → ∃ u, us[i]? = some u ∧ E w u y) ∧ (∀ u ∈ us, ∃ y, E w u y) ∧ (n = 0 ∨ ∃ ad, a = some ad ∧ ∀ j u, us[j]? = some u → w.cell? (ad.add j) = some u) := by
  rcases h with ⟨_, rfl⟩ | ⟨b, o, c', hv, _, hr⟩
  · exact ⟨[], rfl, fun i y hy => (by cases hy), fun u hu => (by cases hu), .inl hl.symm⟩
  · simp only [Value.slice.injEq] at hv
    obtain ⟨rfl, _, rfl⟩ := hv
    suffices hs : ∀ k, k ≤ ys.length → ∃ us : List Value, us.length = k ∧ (∀ (i : Nat) y, i < k → ys[i]? = some y → ∃ u, us[i]? = some u ∧ E w u y) ∧ (∀ u ∈ us, ∃ y, E w u y) ∧ (∀ j u, us[j]? = some u → w.cell? ⟨b, o + j, none⟩ = some u) by
      obtain ⟨us, h1, h2, h3, h4⟩ := hs ys.length (Nat.le_refl _)
      refine ⟨us, h1, fun i y hy => h2 i y (List.getElem?_eq_some_iff.1 hy).1 hy, h3, .inr ⟨_, rfl, fun j u hu => ?_⟩⟩
      rw [Addr.add_mid]
      exact h4 j u hu
    intro k
    induction k with
    | zero => exact fun _ => ⟨[], rfl, fun i y hi => by omega, fun u hu => (by cases hu), fun j u hu => (by cases hu)⟩
    | succ k ih =>
      intro hk
      obtain ⟨us, h1, h2, h3, h4⟩ := ih (by omega)
      obtain ⟨y, hy⟩ := some_get (xs := ys) (j := k) (by omega)
      obtain ⟨u, hu, hE⟩ := hr k y hy
      refine ⟨us ++ [u], by rw [List.length_append, h1]; rfl, fun i y' hi hy' => ?_, fun u' hu' => ?_, fun j u' hu' => ?_⟩
      · by_cases hik : i = k
        · subst hik
          rw [hy] at hy'
          cases hy'
          exact ⟨u, by rw [List.getElem?_append_right (by omega), h1, Nat.sub_self]; rfl, hE⟩
        · obtain ⟨u2, e1, e2⟩ := h2 i y' (by omega) hy'
          exact ⟨u2, by rw [List.getElem?_append_left (by omega)]; exact e1, e2⟩
      · rcases List.mem_append.1 hu' with e | e
        · exact h3 u' e
        · rw [List.mem_singleton.1 e]; exact ⟨y, hE⟩
      · by_cases hjk : j < us.length
        · rw [List.getElem?_append_left hjk] at hu'
          exact h4 j u' hu'
        · have hj2 := (List.getElem?_eq_some_iff.1 hu').1
          rw [List.length_append, List.length_singleton] at hj2
          have ej : j = k := by omega
          subst ej
          rw [List.getElem?_append_right (by omega), h1, Nat.sub_self] at hu'
          cases hu'
          exact hu

theorem ListAt.lift {α : Type} {E : World → Value → α → Prop} {w W : World} {u : Value} {xs : List α} (h : ListAt E w u xs) (hb : Below w.heap.size w W) : ListAt (fun _ => E w) W u xs := by
  rcases h with h | ⟨b, o, c, hv, hl, hr⟩
  · exact .inl h
  · refine .inr ⟨b, o, c, hv, hl, fun i x hx => ?_⟩
    obtain ⟨v, h1, h2⟩ := hr i x hx
    exact ⟨v, (hb.cell (p := ⟨b, o + i, none⟩) (World.block_lt_of_cell? _ _ h1)).trans h1, h2⟩
/-- One thing, in a block of its own. -/
theorem ListAt.one {α : Type} {E : World → Value → α → Prop} {w W : World} {u : Value} {x : α} {g : Nat} {t : TypeId} (hg : W.heap[g]? = some (.cells #[u] t (0, 0))) (h : E w u x) : ListAt (fun _ => E w) W (.slice (some ⟨g, 0, none⟩) 1 1) [x] := by
  refine .inr ⟨g, 0, 1, rfl, Nat.le_refl _, fun i y hy => ?_⟩
  match i, hy with
  | 0, hy =>
    cases hy
    exact ⟨u, cell_of_row _ _ 0 _ _ _ hg, h⟩

/-- A slice of things is appended to one of ours. -/
theorem wpList_append_headsW {α : Type} {E : World → Value → α → Prop} {w W : World} {ops : Array Oper} {rest : List Oper} {op : Oper} {a : Act} {Q : Exit → Act → World → Prop}
    (hg : op.guard = none) (s x : Operand) (t e : TypeId) (hop : op.op = Op.call { callee := Callee.builtin Builtin.append, args := #[s, x], argTypes := #[t, t] })
    (hu : Try.prog.underlying t = some (.slice e)) (hinfo : (Try.prog.info? e).map (fun i => (i.zero, i.size, i.bytes)) = some (some (.slice none 0 0), 1, 24)) (hone : ∀ u y, E w u y → u.oneCell' = true)
    (v : Value) (xs : List α) (hsv : a.eval s = v) (hO : HeadsO E e w v xs W) (ya : Option Addr) (n c : Nat) (ys : List α) (hx : a.eval x = .slice ya n c) (hY : ListAt (fun _ => E w) W (.slice ya n c) ys) (hl : xs.length + ys.length ≤ 4194304)
    (hK : ∀ v' W', HeadsO E e w v' (xs ++ ys) W' → wpList Try.prog ops Q rest (a.put op.dst v') W') :
    wpList Try.prog ops Q (op :: rest) a W := by
  obtain ⟨i, hi, hz, hs, hb⟩ := info_parts hinfo
  obtain ⟨⟨vs, h1, h2⟩, hbb⟩ := hO
  have hyl : ys.length = n := by obtain ⟨_, _, hv, _⟩ := hY.form; simp only [Value.slice.injEq] at hv; exact hv.2.1.symm
  obtain ⟨us, u1, u2, u3, u4⟩ := hY.cells hyl
  have hvl : vs.length = xs.length := by have := h1.1; omega
  refine wpList_plain hg fun K hK' => ?_
  have fin : ∀ (v' : Value) (W' : World), (Builtin.append_ #[t, t] op.type #[v, .slice ya n c]).run Try.prog W = .ok v' W' → HeadsO E e w v' (xs ++ ys) W' → op.wp Try.prog a W K Q := fun v' W' hrun h' => by
    unfold Oper.wp
    simp [execOp, hop, resolve, invoke, builtin, hsv, hx, hrun, Result.andThen]
    exact hK' _ _ (hK v' W' h')
  have both : ∀ (j : Nat) y, (xs ++ ys)[j]? = some y → ∃ u, (vs ++ us)[j]? = some u ∧ E w u y := fun j y hj => by
    by_cases hjx : j < xs.length
    · rw [List.getElem?_append_left hjx] at hj
      obtain ⟨u, e1, e2⟩ := h2 j y hj
      exact ⟨u, by rw [List.getElem?_append_left (by omega)]; exact e1, e2⟩
    · rw [List.getElem?_append_right (by omega)] at hj
      obtain ⟨u, e1, e2⟩ := u2 _ y hj
      exact ⟨u, by rw [List.getElem?_append_right (by omega), hvl]; exact e1, e2⟩
  cases ya with
  | none =>
    have hn0 : n = 0 := by
      rcases u4 with h | ⟨ad, h, _⟩
      · exact h
      · cases h
    have hy0 : ys = [] := List.eq_nil_of_length_eq_zero (by omega)
    subst hn0 hy0
    refine fin v W ?_ ⟨⟨vs, by rw [List.append_nil]; exact h1, by rw [List.append_nil]; exact h2⟩, hbb⟩
    rcases h1.2 with ⟨e1, e2⟩ | ⟨g, cap, cur, e1, _, _, hnc, _⟩
    · rw [e1]
      simp [Builtin.append_, run_underlying hu, sizeOf, typeInfo, hi, Builtin.lenOf, Builtin.firstCells]
    · rw [e1]
      simp [Builtin.append_, run_underlying hu, sizeOf, typeInfo, hi, Builtin.lenOf, Builtin.firstCells, hnc, storeCells]
  | some ad =>
    have hc : ∀ j u, us[j]? = some u → W.cell? (ad.add j) = some u := fun j u hj => by
      rcases u4 with h | ⟨ad', h, h'⟩
      · rw [List.eq_nil_of_length_eq_zero (by omega : us.length = 0)] at hj; cases hj
      · cases h
        exact h' j u hj
    obtain ⟨v', W', hrun, r1, r2, _⟩ := run_append_own (P := Try.prog) W w.heap.size t op.type e i (.slice none 0 0) 1 24 hu hi hz hs hb rfl (by decide) v xs.length vs h1 ad n c us (by omega) hc (fun u hu' => by obtain ⟨y, hy⟩ := u3 u hu'; exact hone u y hy) (by unfold maxLen; omega) (by omega) hbb.size
    refine fin v' W' hrun ⟨⟨vs ++ us, by rw [List.length_append, hyl]; exact r1, both⟩, ?_⟩
    exact ⟨r2.os.trans hbb.os, r2.tape.trans hbb.tape, r2.output.trans hbb.output, Nat.le_trans hbb.size r2.size, fun k hk => (r2.block k (Nat.lt_of_lt_of_le hk hbb.size) (fun e => by have := (h1.lt k e.symm).1; omega)).trans (hbb.block k hk)⟩
theorem wpList_append_heads {α : Type} {E : World → Value → α → Prop} {w W : World} {ops : Array Oper} {rest : List Oper} {op : Oper} {a : Act} {Q : Exit → Act → World → Prop}
    (hg : op.guard = none) (s x : Operand) (t e : TypeId) (hop : op.op = Op.call { callee := Callee.builtin Builtin.append, args := #[s, x], argTypes := #[t, t] })
    (hu : Try.prog.underlying t = some (.slice e)) (hinfo : (Try.prog.info? e).map (fun i => (i.zero, i.size, i.bytes)) = some (some (.slice none 0 0), 1, 24)) (hone : ∀ u y, E w u y → u.oneCell' = true)
    (v : Value) (xs : List α) (hsv : a.eval s = v) (hO : HeadsO E e w v xs W) (ya : Option Addr) (n c : Nat) (ys : List α) (hx : a.eval x = .slice ya n c) (hY : ListAt E w (.slice ya n c) ys) (hl : xs.length + ys.length ≤ 4194304)
    (hK : ∀ v' W', HeadsO E e w v' (xs ++ ys) W' → wpList Try.prog ops Q rest (a.put op.dst v') W') :
    wpList Try.prog ops Q (op :: rest) a W :=
  wpList_append_headsW hg s x t e hop hu hinfo hone v xs hsv hO ya n c ys hx (hY.lift hO.bb) hl hK

/-- Rows of bytes, all of it new since w. -/
structure OwnRows (w : World) (v : Value) (rows : List (List UInt8)) (W : World) : Prop where
  own : ∃ vs, W.ownsRow w.heap.size 49 1 v rows.length vs ∧ ∀ (i : Nat) x, rows[i]? = some x → ∃ u, vs[i]? = some u ∧ Own w u x W
  bb : Below w.heap.size w W
theorem OwnRows.start (w : World) : OwnRows w (.slice none 0 0) [] w := ⟨⟨[], World.ownsRow_nil _ _ _ _, fun i x hx => (by cases hx)⟩, Below.refl _ w⟩
theorem OwnRows.later {w W W' : World} {v : Value} {rows : List (List UInt8)} (h : OwnRows w v rows W) (hb : Below W.heap.size W W') : OwnRows w v rows W' := by
  obtain ⟨⟨vs, h1, h2⟩, h3⟩ := h
  exact ⟨⟨vs, row_keeps h1 fun k hk => hb.block k (h1.lt k hk).2, fun i x hx => by obtain ⟨u, e1, e2⟩ := h2 i x hx; exact ⟨u, e1, e2.later hb⟩⟩, h3.trans (hb.mono h3.size)⟩
theorem OwnRows.form {w W : World} {v : Value} {rows : List (List UInt8)} (h : OwnRows w v rows W) : ∃ a c, v = .slice a rows.length c := by
  obtain ⟨⟨vs, h1, _⟩, _⟩ := h
  rcases h1.2 with ⟨rfl, h0⟩ | ⟨g, cap, cur, rfl, _⟩
  · exact ⟨_, _, by rw [h0]⟩
  · exact ⟨_, _, rfl⟩
theorem OwnRows.rowsAt {w W : World} {v : Value} {rows : List (List UInt8)} (h : OwnRows w v rows W) : RowsAt W v rows := by
  obtain ⟨⟨vs, h1, h2⟩, hb⟩ := h
  rcases h1.2 with ⟨rfl, h0⟩ | ⟨g, cap, cur, rfl, _, _, h4, _⟩
  · exact .inl ⟨⟨_, _, rfl⟩, List.eq_nil_of_length_eq_zero h0⟩
  · refine .inr ⟨g, 0, cap, rfl, h4, fun i x hx => ?_⟩
    obtain ⟨u, e1, e2⟩ := h2 i x hx
    have hc := h1.cells (g := g) rfl _ _ e1
    rw [Addr.add_mid] at hc
    exact ⟨u, hc, bytes_of_owns e2.own⟩
theorem Own.one {w W : World} {u : Value} {x : List UInt8} (h : Own w u x W) : u.oneCell' = true := by
  rcases h.own.2 with ⟨rfl, _⟩ | ⟨g, cap, cur, rfl, _⟩ <;> rfl
/-- Behind what leaves rows of bytes alone. -/
theorem Own.keepT {w W W' : World} {u : Value} {x : List UInt8} (h : Own w u x W) (hb : Below w.heap.size w W') (hk : ∀ (k : Nat) (cs : Array Value) (f : Nat × Nat), W.heap[k]? = some (Obj.cells cs 5 f) → W'.heap[k]? = W.heap[k]?) : Own w u x W' := by
  refine ⟨own_keeps h.own fun k hk' => ?_, h.new, hb⟩
  rcases h.own.2 with ⟨e, _⟩ | ⟨g, cap, cur, e, _, h5, _⟩
  · rw [e] at hk'; cases hk'
  · rw [e] at hk'
    have e' : g = k := by simpa [Value.ownBlock] using hk'
    subst e'
    exact hk _ _ _ h5
/-- A row of ours is appended to rows of ours. -/
theorem wpList_append_ownrow {w W : World} {ops : Array Oper} {rest : List Oper} {op : Oper} {a : Act} {Q : Exit → Act → World → Prop}
    (hg : op.guard = none) (s x : Operand) (hop : op.op = Op.call { callee := Callee.builtin Builtin.append, args := #[s, x], argTypes := #[23, 23] })
    (v : Value) (rows : List (List UInt8)) (r : List UInt8) (u : Value) (g cap : Nat) (hsv : a.eval s = v) (hR : OwnRows w v rows W) (hx : a.eval x = .slice (some ⟨g, 0, none⟩) 1 cap)
    (h0 : W.cell? ⟨g, 0, none⟩ = some u) (hO : Own w u r W) (hl : rows.length ≤ 1048576)
    (hK : ∀ v' W', OwnRows w v' (rows ++ [r]) W' → wpList Try.prog ops Q rest (a.put op.dst v') W') :
    wpList Try.prog ops Q (op :: rest) a W := by
  obtain ⟨i, hi, hz, hs, hb⟩ := info_parts infoRow0
  obtain ⟨⟨vs, hrow, hcells⟩, hbb⟩ := hR
  refine wpList_plain hg fun K hK' => ?_
  obtain ⟨v', W', hrun, r1, r2, _⟩ := run_append_own (P := Try.prog) W w.heap.size 23 op.type 49 i (.slice none 0 0) 1 24 Try.underlying23 hi hz hs hb rfl (by decide) v rows.length vs hrow ⟨g, 0, none⟩ 1 cap [u] rfl
    (fun j u' hj => by
      match j, hj with
      | 0, hj => cases hj; exact h0)
    (fun u' hu => by rw [List.mem_singleton.1 hu]; exact hO.one)
    (by unfold maxLen; omega) (by omega) hbb.size
  have hb' : Below w.heap.size w W' := ⟨r2.os.trans hbb.os, r2.tape.trans hbb.tape, r2.output.trans hbb.output, Nat.le_trans hbb.size r2.size, fun k hk => (r2.block k (Nat.lt_of_lt_of_le hk hbb.size) (fun e => by have := (hrow.lt k e.symm).1; omega)).trans (hbb.block k hk)⟩
  have hkp : ∀ (k : Nat) (cs : Array Value) (f : Nat × Nat), W.heap[k]? = some (Obj.cells cs 5 f) → W'.heap[k]? = W.heap[k]? := fun k cs f hk => by
    refine r2.block k (Array.getElem?_eq_some_iff.1 hk).1 fun e => ?_
    rcases hrow.2 with ⟨e1, _⟩ | ⟨g2, _, _, e1, _, e3, _⟩
    · rw [e1] at e; cases e
    · rw [e1] at e
      have e' : k = g2 := by simpa [Value.ownBlock] using e
      subst e'
      rw [e3] at hk
      cases hk
  have hvl : vs.length = rows.length := by have := hrow.1; omega
  have hfin : OwnRows w v' (rows ++ [r]) W' := by
    refine ⟨⟨vs ++ [u], by rw [List.length_append]; exact r1, fun j y hj => ?_⟩, hb'⟩
    by_cases hjx : j < rows.length
    · rw [List.getElem?_append_left hjx] at hj
      obtain ⟨u', e1, e2⟩ := hcells j y hj
      exact ⟨u', by rw [List.getElem?_append_left (by omega)]; exact e1, e2.keepT hb' hkp⟩
    · have hj2 := (List.getElem?_eq_some_iff.1 hj).1
      rw [List.length_append, List.length_singleton] at hj2
      have ej : j = rows.length := by omega
      rw [ej, List.getElem?_append_right (Nat.le_refl _), Nat.sub_self] at hj
      cases hj
      exact ⟨u, by rw [ej, ← hvl, List.getElem?_append_right (Nat.le_refl _), Nat.sub_self]; rfl, hO.keepT hb' hkp⟩
  unfold Oper.wp
  simp [execOp, hop, resolve, invoke, builtin, hsv, hx, hrun, Result.andThen]
  exact hK' _ _ (hK v' W' hfin)
end Go.Proofs.Ytflfiobicapopaa

namespace Go.Proofs.Ytflfiobicapopaa
open Go.RowKit

/-- What grows is of another type. -/
theorem grown_type {W W' : World} {base size : Nat} {e : TypeId} {v : Value} {n : Nat} {xs : List Value} (h : W.ownsRow base e size v n xs) (hg : W.grownBy W' v.ownBlock) {t : TypeId} (ht : t ≠ e) : ∀ (k : Nat) (cs : Array Value) (f : Nat × Nat), W.heap[k]? = some (Obj.cells cs t f) → W'.heap[k]? = W.heap[k]? := fun k cs f hk => by
  refine hg.block k (Array.getElem?_eq_some_iff.1 hk).1 fun e => ?_
  rcases h.2 with ⟨e1, _⟩ | ⟨g2, _, _, e1, _, e3, _⟩
  · rw [e1] at e; cases e
  · rw [e1] at e
    have e' : k = g2 := by simpa [Value.ownBlock] using e
    subst e'
    rw [e3] at hk
    simp only [Option.some.injEq, Obj.cells.injEq] at hk
    exact ht hk.2.1.symm

/-- Rows of bytes, all of it new since w. -/
structure RowsN (w : World) (v : Value) (rows : List (List UInt8)) (W : World) : Prop where
  own : ∃ vs, W.ownsRow 0 49 1 v rows.length vs ∧ ∀ (i : Nat) x, rows[i]? = some x → ∃ u, vs[i]? = some u ∧ Own w u x W
  new : ∀ k, v.ownBlock = some k → w.heap.size ≤ k
theorem RowsN.start (w W : World) : RowsN w (.slice none 0 0) [] W := ⟨⟨[], World.ownsRow_nil _ _ _ _, fun i x hx => (by cases hx)⟩, fun k hk => (by cases hk)⟩
theorem RowsN.keep {w W W' : World} {v : Value} {rows : List (List UInt8)} (h : RowsN w v rows W) (hb : Below w.heap.size w W') (hk : ∀ k, v.ownBlock = some k → k < W.heap.size → W'.heap[k]? = W.heap[k]?) (hu : ∀ (k : Nat) (cs : Array Value) (f : Nat × Nat), W.heap[k]? = some (Obj.cells cs 5 f) → W'.heap[k]? = W.heap[k]?) : RowsN w v rows W' := by
  obtain ⟨⟨vs, h1, h2⟩, h3⟩ := h
  exact ⟨⟨vs, row_keeps h1 fun k e => hk k e (h1.lt k e).2, fun i x hx => by obtain ⟨u, e1, e2⟩ := h2 i x hx; exact ⟨u, e1, e2.keepT hb hu⟩⟩, h3⟩
theorem RowsN.rowsAt {w W : World} {v : Value} {rows : List (List UInt8)} (h : RowsN w v rows W) : RowsAt W v rows := by
  obtain ⟨⟨vs, h1, h2⟩, _⟩ := h
  exact row_at h1 fun i x hx => by obtain ⟨u, e1, e2⟩ := h2 i x hx; exact ⟨u, e1, bytes_of_owns e2.own⟩
theorem RowsN.form {w W : World} {v : Value} {rows : List (List UInt8)} (h : RowsN w v rows W) : ∃ a c, v = .slice a rows.length c := by
  obtain ⟨⟨vs, h1, _⟩, _⟩ := h
  rcases h1.2 with ⟨rfl, h0⟩ | ⟨g, cap, cur, rfl, _⟩
  · exact ⟨_, _, by rw [h0]⟩
  · exact ⟨_, _, rfl⟩
theorem RowsN.lt {w W : World} {v : Value} {rows : List (List UInt8)} (h : RowsN w v rows W) : ∀ k, v.ownBlock = some k → k < W.heap.size := by
  obtain ⟨⟨vs, h1, _⟩, _⟩ := h
  exact fun k hk => (h1.lt k hk).2

/-- Batches that are told, and rows that are kept, all of it new since w. -/
structure ScanN (w : World) (vo : Value) (out : List (List (List UInt8))) (vk : Value) (kept : List (List UInt8)) (W : World) : Prop where
  bb : Below w.heap.size w W
  rows : RowsN w vk kept W
  outs : ∃ vs, W.ownsRow 0 23 1 vo out.length vs ∧ ∀ (i : Nat) x, out[i]? = some x → ∃ u, vs[i]? = some u ∧ RowsN w u x W ∧ ∀ k, u.ownBlock = some k → vk.ownBlock ≠ some k
  new : ∀ k, vo.ownBlock = some k → w.heap.size ≤ k
theorem ScanN.start (w : World) : ScanN w (.slice none 0 0) [] (.slice none 0 0) [] w := ⟨Below.refl _ w, RowsN.start w w, ⟨[], World.ownsRow_nil _ _ _ _, fun i x hx => (by cases hx)⟩, fun k hk => (by cases hk)⟩
theorem ScanN.later {w W W' : World} {vo vk : Value} {out : List (List (List UInt8))} {kept : List (List UInt8)} (h : ScanN w vo out vk kept W) (hb : Below W.heap.size W W') : ScanN w vo out vk kept W' := by
  obtain ⟨vs, h1, h2⟩ := h.outs
  have hb' := h.bb.trans (hb.mono h.bb.size)
  have hu : ∀ (k : Nat) (cs : Array Value) (f : Nat × Nat), W.heap[k]? = some (Obj.cells cs 5 f) → W'.heap[k]? = W.heap[k]? := fun k cs f hk => hb.block k (Array.getElem?_eq_some_iff.1 hk).1
  exact ⟨hb', h.rows.keep hb' (fun k _ hk => hb.block k hk) hu, ⟨vs, row_keeps h1 fun k e => hb.block k (h1.lt k e).2, fun i x hx => by
    obtain ⟨u, e1, e2, e3⟩ := h2 i x hx
    exact ⟨u, e1, e2.keep hb' (fun k _ hk => hb.block k hk) hu, e3⟩⟩, h.new⟩
theorem ScanN.alloc {w W : World} {vo vk : Value} {out : List (List (List UInt8))} {kept : List (List UInt8)} (h : ScanN w vo out vk kept W) (o : Obj) : ScanN w vo out vk kept (W.alloc o) := h.later ((Below.refl _ W).alloc (Nat.le_refl _) o)
theorem ScanN.batches {w W : World} {vo vk : Value} {out : List (List (List UInt8))} {kept : List (List UInt8)} (h : ScanN w vo out vk kept W) : BatchesAt W vo out := by
  obtain ⟨vs, h1, h2⟩ := h.outs
  exact row_at h1 fun i x hx => by obtain ⟨u, e1, e2, _⟩ := h2 i x hx; exact ⟨u, e1, e2.rowsAt⟩
theorem ScanN.formO {w W : World} {vo vk : Value} {out : List (List (List UInt8))} {kept : List (List UInt8)} (h : ScanN w vo out vk kept W) : ∃ a c, vo = .slice a out.length c := by
  obtain ⟨vs, h1, _⟩ := h.outs
  rcases h1.2 with ⟨rfl, h0⟩ | ⟨g, cap, cur, rfl, _⟩
  · exact ⟨_, _, by rw [h0]⟩
  · exact ⟨_, _, rfl⟩

/-- 'kept = append(kept, d)'. -/
theorem wpList_append_keptN {w W : World} {ops : Array Oper} {rest : List Oper} {op : Oper} {a : Act} {Q : Exit → Act → World → Prop}
    (hg : op.guard = none) (s x : Operand) (hop : op.op = Op.call { callee := Callee.builtin Builtin.append, args := #[s, x], argTypes := #[23, 23] })
    (vo vk u : Value) (out : List (List (List UInt8))) (kept : List (List UInt8)) (d : List UInt8) (g cap : Nat) (hsv : a.eval s = vk) (hS : ScanN w vo out vk kept W) (hx : a.eval x = .slice (some ⟨g, 0, none⟩) 1 cap)
    (h0 : W.cell? ⟨g, 0, none⟩ = some u) (hu : Own w u d W) (hl : kept.length ≤ 1048576)
    (hK : ∀ v' W', ScanN w vo out v' (kept ++ [d]) W' → wpList Try.prog ops Q rest (a.put op.dst v') W') :
    wpList Try.prog ops Q (op :: rest) a W := by
  obtain ⟨ti, hti, hy0, hy1, hy2⟩ := info_parts infoRow0
  obtain ⟨⟨vs, h1, h2⟩, hnew⟩ := hS.rows
  obtain ⟨ws, o1, o2⟩ := hS.outs
  have hvl : vs.length = kept.length := by have := h1.1; omega
  refine wpList_append_own_at W hg s x 23 hop 0 49 ti (.slice none 0 0) 1 24 Try.underlying23 hti hy0 hy1 hy2 rfl (by decide) vk _ _ hsv h1 ⟨g, 0, none⟩ 1 cap [u] hx rfl (fun j u' hj => by
    match j, hj with
    | 0, hj => cases hj; exact h0) (fun u' hu' => by rw [List.mem_singleton] at hu'; rw [hu']; exact hu.one) (by unfold maxLen; omega) (by omega) (Nat.zero_le _) ?_
  intro v' W' r1 r2 _ r3
  have hn' : ∀ k, v'.ownBlock = some k → w.heap.size ≤ k := fun k hk => by
    rcases r3 with e | e
    · exact hnew k (by rw [← e]; exact hk)
    · rw [e] at hk; cases hk; exact hS.bb.size
  have hb' : Below w.heap.size w W' := hS.bb.grown r2 hS.bb.size hnew
  have hty := grown_type h1 r2 (t := 5) (by decide)
  refine hK v' W' ⟨hb', ⟨⟨vs ++ [u], by rw [List.length_append, List.length_singleton]; exact r1, fun i x hx => ?_⟩, hn'⟩, ⟨ws, row_keeps o1 fun k e => r2.block k (o1.lt k e).2 fun e' => own_apart o1 h1 (by decide) k e e'.symm, fun i x' hx' => ?_⟩, hS.new⟩
  · by_cases hi : i < kept.length
    · rw [List.getElem?_append_left hi] at hx
      obtain ⟨u', e1, e2⟩ := h2 i x hx
      exact ⟨u', by rw [List.getElem?_append_left (by omega)]; exact e1, e2.keepT hb' hty⟩
    · have hi2 : i = kept.length := by have := (List.getElem?_eq_some_iff.1 hx).1; rw [List.length_append, List.length_singleton] at this; omega
      rw [hi2, List.getElem?_append_right (Nat.le_refl _), Nat.sub_self] at hx
      cases hx
      exact ⟨u, by rw [hi2, ← hvl, List.getElem?_append_right (Nat.le_refl _), Nat.sub_self]; rfl, hu.keepT hb' hty⟩
  · obtain ⟨u', e1, e2, e3⟩ := o2 i x' hx'
    refine ⟨u', e1, e2.keep hb' (fun k e hk => r2.block k hk fun e' => e3 k e e'.symm) hty, fun k e e' => ?_⟩
    rcases r3 with e4 | e4
    · exact e3 k e (by rw [← e4]; exact e')
    · rw [e4] at e'
      cases e'
      have := e2.lt _ e
      omega
/-- 'out = append(out, kept)', and then nothing is kept. -/
theorem wpList_append_outN {w W : World} {ops : Array Oper} {rest : List Oper} {op : Oper} {a : Act} {Q : Exit → Act → World → Prop}
    (hg : op.guard = none) (s x : Operand) (hop : op.op = Op.call { callee := Callee.builtin Builtin.append, args := #[s, x], argTypes := #[33, 33] })
    (vo vk : Value) (out : List (List (List UInt8))) (kept : List (List UInt8)) (g cap : Nat) (hsv : a.eval s = vo) (hS : ScanN w vo out vk kept W) (hx : a.eval x = .slice (some ⟨g, 0, none⟩) 1 cap)
    (h0 : W.cell? ⟨g, 0, none⟩ = some vk) (hu1 : vk.oneCell' = true) (hl : out.length ≤ 1048576)
    (hK : ∀ v' W', ScanN w v' (out ++ [kept]) (.slice none 0 0) [] W' → wpList Try.prog ops Q rest (a.put op.dst v') W') :
    wpList Try.prog ops Q (op :: rest) a W := by
  obtain ⟨ti, hti, hy0, hy1, hy2⟩ := info_parts infoRows0
  obtain ⟨ws, o1, o2⟩ := hS.outs
  have hwl : ws.length = out.length := by have := o1.1; omega
  refine wpList_append_own_at W hg s x 33 hop 0 23 ti (.slice none 0 0) 1 24 Try.underlying33 hti hy0 hy1 hy2 rfl (by decide) vo _ _ hsv o1 ⟨g, 0, none⟩ 1 cap [vk] hx rfl (fun j u' hj => by
    match j, hj with
    | 0, hj => cases hj; exact h0) (fun u' hu' => by rw [List.mem_singleton] at hu'; rw [hu']; exact hu1) (by unfold maxLen; omega) (by omega) (Nat.zero_le _) ?_
  intro v' W' r1 r2 _ r3
  have hb' : Below w.heap.size w W' := hS.bb.grown r2 hS.bb.size hS.new
  have hty := grown_type o1 r2 (t := 5) (by decide)
  have hkp : ∀ (u : Value) (x : List (List UInt8)), RowsN w u x W → RowsN w u x W' := fun u x hR => by
    have hR2 := hR
    obtain ⟨⟨us, g1, _⟩, _⟩ := hR
    exact hR2.keep hb' (fun k e hk => r2.block k hk fun e' => own_apart g1 o1 (by decide) k e e'.symm) hty
  refine hK v' W' ⟨hb', RowsN.start w W', ⟨ws ++ [vk], by rw [List.length_append, List.length_singleton]; exact r1, fun i x' hx' => ?_⟩, fun k hk => ?_⟩
  · by_cases hi : i < out.length
    · rw [List.getElem?_append_left hi] at hx'
      obtain ⟨u', e1, e2, e3⟩ := o2 i x' hx'
      exact ⟨u', by rw [List.getElem?_append_left (by omega)]; exact e1, hkp u' x' e2, fun k e e' => by cases e'⟩
    · have hi2 : i = out.length := by have := (List.getElem?_eq_some_iff.1 hx').1; rw [List.length_append, List.length_singleton] at this; omega
      rw [hi2, List.getElem?_append_right (Nat.le_refl _), Nat.sub_self] at hx'
      cases hx'
      exact ⟨vk, by rw [hi2, ← hwl, List.getElem?_append_right (Nat.le_refl _), Nat.sub_self]; rfl, hkp vk kept hS.rows, fun k e e' => by cases e'⟩
  · rcases r3 with e | e
    · exact hS.new k (by rw [← e]; exact hk)
    · rw [e] at hk; cases hk; exact hS.bb.size

/-- Scanned up to t. -/
def ScanTo (b : List UInt8) (t : Nat) (out : List (List (List UInt8))) (kept : List (List UInt8)) (en : Nat) : Prop := ∀ rs m e, AllIs (b.drop t) rs m e → ∃ rs0 m0, AllIs b rs0 m0 e ∧ scanGo (finErr e) rs0 [] [] 0 0 = scanGo (finErr e) rs out kept t en
theorem ScanTo.start (b : List UInt8) : ScanTo b 0 [] [] 0 := fun rs m e h => ⟨rs, m, by simpa using h, rfl⟩
section
variable {b : List UInt8} {t en : Nat} {out : List (List (List UInt8))} {kept : List (List UInt8)}
theorem ScanTo.stop (h : ScanTo b t out kept en) (hne : b.drop t ≠ []) {x : Int} (hx : takeErr (b.drop t) = x) (h0 : x ≠ 0) : ScanIs b out en x := by
  obtain ⟨rs0, m0, h1, h2⟩ := h [] 0 x (by rw [← hx]; exact .stop hne (by rw [hx]; exact h0))
  refine ⟨rs0, m0, x, h1, h2.trans ?_⟩
  show (out, en, finErr x kept.length) = _
  unfold finErr
  rw [if_neg (fun h => h0 h.1)]
theorem ScanTo.done (h : ScanTo b t out kept en) (ht : b.drop t = []) : ScanIs b out en (if 0 < kept.length then 32 else 0) := by
  obtain ⟨rs0, m0, h1, h2⟩ := h [] 0 0 (by rw [ht]; exact .none)
  refine ⟨rs0, m0, 0, h1, h2.trans ?_⟩
  show (out, en, finErr 0 kept.length) = _
  unfold finErr
  by_cases hk : 0 < kept.length
  · rw [if_pos ⟨rfl, hk⟩, if_pos hk]
  · rw [if_neg (fun h => hk h.2), if_neg hk]
theorem ScanTo.next (h : ScanTo b t out kept en) (hne : b.drop t ≠ []) (he : takeErr (b.drop t) = 0) {r : RecD} (hr : r = takeRec (b.drop t)) {L t2 : Nat} (hL : L = takeLen (b.drop t)) (ht : t2 = t + L) {out2 : List (List (List UInt8))} {kept2 : List (List UInt8)} {en2 : Nat}
    (hs : ∀ f rs, scanGo f (r :: rs) out kept t en = scanGo f rs out2 kept2 t2 en2) : ScanTo b t2 out2 kept2 en2 := fun rs m e h' => by
  have h'' := AllIs.more hne he (rs := rs) (n := m) (e := e) (by rw [List.drop_drop, ← hL, ← ht]; exact h')
  rw [← hr] at h''
  obtain ⟨rs0, m0, h1, h2⟩ := h _ _ _ h''
  exact ⟨rs0, m0, h1, h2.trans (hs _ _)⟩
theorem ScanTo.bad (h : ScanTo b t out kept en) (hne : b.drop t ≠ []) (he : takeErr (b.drop t) = 0) {r : RecD} (hr : r = takeRec (b.drop t)) (hs : ∀ f rs, scanGo f (r :: rs) out kept t en = (out, en, 34)) : ScanIs b out en 34 := by
  obtain ⟨rs, m, e, h'⟩ := AllIs.some ((b.drop t).drop (takeLen (b.drop t)))
  have h'' := AllIs.more hne he h'
  rw [← hr] at h''
  obtain ⟨rs0, m0, h1, h2⟩ := h _ _ _ h''
  exact ⟨rs0, m0, e, h1, h2.trans (hs _ _)⟩
end
end Go.Proofs.Ytflfiobicapopaa

namespace Go.Proofs.Ytflfiobicapopaa
open Go.RowKit

/-- What Scan answers, all of it new since w. -/
def ScanNew (w : World) (b : List UInt8) (e : Ending) (w' : World) : Prop := ∃ v bs n x vk kept, e = .returned (.tuple #[v, .int .i64 ((n : Nat) : Int), .int .i64 x]) ∧ ScanIs b bs n x ∧ ScanN w v bs vk kept w'

set_option maxRecDepth 100000 in
set_option maxHeartbeats 8000000 in
theorem landScanN_any (a : Option Addr) (n c : Nat) (b : List UInt8) (w : World) (h : Bytes w (.slice a n c) b) (hl : n ≤ 1048576) : Calls Try.prog 51 #[.slice a n c] w fun e w' => ScanNew w b e w' := by
  have HBL := hide (bytes_len h).1
  have HH := hide h
  clear h
  go_enter Try.func51, Try.ntmps51
  go_wp2_with fail
  go_loopw [5, 6, 7, 8] (fun vo vk en at' W => ∃ (t enn : Nat) (out : List (List (List UInt8))) (kept : List (List UInt8)), t ≤ n ∧ at' = .int .i64 ((t : Nat) : Int) ∧ en = .int .i64 ((enn : Nat) : Int) ∧ out.length ≤ t ∧ kept.length ≤ 1024 ∧ ScanN w vo out vk kept W ∧ ScanTo b t out kept enn) (fun _ _ _ at' _ => n - (intOf at').toNat)
  case atStart => exact ⟨0, 0, [], [], Nat.zero_le _, rfl, rfl, Nat.zero_le _, by simp, ScanN.start w, ScanTo.start b⟩
  case round =>
    obtain ⟨t, enn, out, kept, ht, rfl, rfl, hol, hkl, hS, hT⟩ := hrel
    have HS := hide hS
    have HT := hide hT
    clear hS hT
    obtain ⟨ka, kc, ek⟩ := (unhide HS).rows.form
    obtain ⟨oa, oc, eo⟩ := (unhide HS).formO
    subst ek eo
    obtain ⟨nk, hnk⟩ : ∃ nk, nk = kept.length := ⟨_, rfl⟩
    rw [← hnk] at HS hkl ⊢
    have HNK := hide hnk
    clear hnk
    obtain ⟨no, hno⟩ : ∃ no, no = out.length := ⟨_, rfl⟩
    rw [← hno] at HS hol ⊢
    have HNO := hide hno
    clear hno
    by_cases hlt : t < n
    · have hlt' : (t : Int) < (n : Int) := by omega
      obtain ⟨s, k, B, q, q'⟩ := slice_from (l := t) (unhide HH) (by omega)
      have HB : Hid (Bytes wr (.slice s (n - t) k) (b.drop t)) := B.later (unhide HS).bb
      have HNE : Hid (b.drop t ≠ []) := fun e => by have := congrArg List.length e; rw [List.length_drop] at this; have := unhide HBL; simp at *; omega
      clear B
      go_wp2_with fail
      refine (recTake_any _ _ _ _ _ (unhide HB)).mono ?_
      rintro e w2 ⟨a2, n2, c2, rfl, hF⟩
      clear q q' HB
      have HO := hide (hF.own (unhide HS).bb)
      have HS2 := hide ((unhide HS).later hF.1.2.2)
      have HDL := hide (bytes_len hF.1.1).1
      have HTL : Hid (takeErr (b.drop t) = 0 → (takeRec (b.drop t)).right ∧ takeLen (b.drop t) ≤ n - t ∧ takeLen (b.drop t) = 9 + (takeRec (b.drop t)).d.length) := fun he => by
        have h := put_take _ he
        refine ⟨h.1, ?_, h.2.2.2.2⟩
        have := h.2.2.1
        rw [List.length_drop, unhide HBL] at this
        exact this
      clear hF HS
      obtain ⟨x, hx⟩ : ∃ x, x = takeErr (b.drop t) := ⟨_, rfl⟩
      obtain ⟨L, hLd⟩ : ∃ L, L = takeLen (b.drop t) := ⟨_, rfl⟩
      obtain ⟨r, hr⟩ : ∃ r, r = takeRec (b.drop t) := ⟨_, rfl⟩
      rw [← hx, ← hLd, ← hr]
      rw [← hr] at HO HDL
      rw [← hx, ← hLd, ← hr] at HTL
      have HX := hide hx
      have HLD := hide hLd
      have HR := hide hr
      clear hx hLd hr
      have HS3 := hide ((unhide HS2).alloc (.cells #[.int .u8 (r.k.toNat : Nat), .slice a2 n2 c2] 99))
      have HO3 := hide ((unhide HO).alloc (.cells #[.int .u8 (r.k.toNat : Nat), .slice a2 n2 c2] 99))
      have hblk := heap_alloc_new w2 (.cells #[.int .u8 (r.k.toNat : Nat), .slice a2 n2 c2] 99)
      have x0 := cell_of_row _ _ 0 _ _ _ hblk
      have x1 := cell_of_row _ _ 1 _ _ _ hblk
      clear HS2 HO
      by_cases hx0 : x = 0
      · subst hx0
        obtain ⟨hright, hL1, hL2⟩ := unhide HTL rfl
        have hk12 : r.k = 1 ∨ r.k = 2 := by
          have h1 := hright.1
          rcases (by omega : r.k.toNat = 1 ∨ r.k.toNat = 2) with e | e
          · exact .inl (UInt8.toNat_inj.1 e)
          · exact .inr (UInt8.toNat_inj.1 e)
        have hL3 : L = 9 + n2 := by rw [hL2, unhide HDL]
        obtain ⟨E, hE⟩ : ∃ E, E = t + L := ⟨_, rfl⟩
        have g2 : (t : Int) + (L : Int) = (E : Int) := by omega
        have hEn : E ≤ n := by omega
        have hE9 : t + 9 ≤ E := by omega
        have HE := hide hE
        have HL3 := hide hL3
        clear hright hL1 hL2 hL3 hE HTL
        rcases hk12 with hk1 | hk2
        · have hkb : (((r.k.toNat : Nat) : Int) == 1) = true := by rw [hk1]; rfl
          by_cases hk4 : nk = 1024
          · have hkb2 : (((r.k.toNat : Nat) : Int) == 2) = false := by rw [hk1]; rfl
            have HSC := hide ((unhide HT).bad (unhide HNE) (unhide HX).symm (unhide HR) (fun f rs => by rw [scanGo, if_pos hk1, if_pos (by rw [← unhide HNK]; exact hk4)]))
            have hk4' : ¬ (nk : Int) < 1024 := by omega
            clear hk1
            go_wp2_with fail
            go_ret3
            exact ⟨_, out, enn, 34, _, kept, rfl, unhide HSC, unhide HS3⟩
          · have HT2 : Hid (ScanTo b E out (kept ++ [r.d]) enn) := (unhide HT).next (unhide HNE) (unhide HX).symm (unhide HR) (unhide HLD) (unhide HE) fun f rs => by
              rw [scanGo, if_pos hk1, if_neg (by rw [← unhide HNK]; exact hk4), unhide HDL, ← unhide HL3, ← unhide HE]
            have hk4' : (nk : Int) < 1024 := by omega
            obtain ⟨w3, hw3⟩ : ∃ w3, w3 = w2.alloc (.cells #[.int .u8 (r.k.toNat : Nat), .slice a2 n2 c2] 99) := ⟨_, rfl⟩
            rw [← hw3] at HS3 HO3 x0 x1
            have HS4 := hide ((unhide HS3).alloc (.cells #[.slice a2 n2 c2] 49))
            have HO4 := hide ((unhide HO3).alloc (.cells #[.slice a2 n2 c2] 49))
            have HW3 := hide hw3
            clear hk1 hblk hw3
            go_upto_region 7 with fail
            rw [← unhide HW3]
            clear HW3
            go_wp2_with (at_builtin; refine wpList_append_keptN rfl _ _ rfl _ _ (.slice a2 n2 c2) _ _ r.d w3.heap.size 1 rfl (unhide HS4) rfl (by simp) (unhide HO4) (by rw [← unhide HNK]; omega) ?_)
            rintro v9 w9 hS9
            have HS9 := hide hS9
            clear hS9 HS3 HS4 HO3 HO4
            go_wp2_with fail
            exact ⟨⟨E, enn, out, kept ++ [r.d], hEn, rfl, rfl, by rw [← unhide HNO]; omega, by rw [List.length_append, List.length_singleton, ← unhide HNK]; omega, unhide HS9, unhide HT2⟩, by simp [intOf]; omega⟩
        · have hkb : (((r.k.toNat : Nat) : Int) == 1) = false := by rw [hk2]; rfl
          have hkb2 : (((r.k.toNat : Nat) : Int) == 2) = true := by rw [hk2]; rfl
          have hkn : ¬ r.k = 1 := by rw [hk2]; decide
          obtain ⟨w3, hw3⟩ : ∃ w3, w3 = w2.alloc (.cells #[.int .u8 (r.k.toNat : Nat), .slice a2 n2 c2] 99) := ⟨_, rfl⟩
          rw [← hw3] at HS3 HO3 x0 x1
          have HW3 := hide hw3
          have HKN := hide hkn
          clear hk2 hblk hw3 hkn
          go_upto_region 7 with fail
          rw [← unhide HW3]
          clear HW3
          go_wp2_with fail
          refine (isEnd_any _ r.d nk hkl _ (bytes_of_owns (unhide HO3).own)).mono ?_
          rintro e w4 ⟨rfl, hb4⟩
          have HS4 := hide ((unhide HS3).later hb4)
          clear hb4 HS3 HO3 x0 x1
          by_cases hend : 0 < nk ∧ r.d.length = 2 ∧ le r.d = nk
          · have HT2 : Hid (ScanTo b E (out ++ [kept]) [] E) := (unhide HT).next (unhide HNE) (unhide HX).symm (unhide HR) (unhide HLD) (unhide HE) fun f rs => by
              rw [scanGo, if_neg (unhide HKN), if_neg (by rw [← unhide HNK]; omega), unhide HDL, ← unhide HL3, ← unhide HE]
            rw [decide_eq_true hend]
            have HS5 := hide ((unhide HS4).alloc (.cells #[.slice ka nk kc] 23))
            clear hend
            go_wp2_with (at_builtin; refine wpList_append_outN rfl _ _ rfl _ (.slice ka nk kc) _ _ w4.heap.size 1 rfl (unhide HS5) rfl (by simp) rfl (by rw [← unhide HNO]; omega) ?_)
            rintro v9 w9 hS9
            have HS9 := hide hS9
            clear hS9 HS4 HS5
            go_wp2_with fail
            exact ⟨⟨E, E, out ++ [kept], [], hEn, rfl, rfl, by rw [List.length_append, List.length_singleton, ← unhide HNO]; omega, by simp, unhide HS9, unhide HT2⟩, by simp [intOf]; omega⟩
          · have HSC := hide ((unhide HT).bad (unhide HNE) (unhide HX).symm (unhide HR) (fun f rs => by rw [scanGo, if_neg (unhide HKN), if_pos (by rw [← unhide HNK]; omega)]))
            rw [decide_eq_false hend]
            clear hend
            go_wp2_with fail
            go_ret3
            exact ⟨_, out, enn, 34, _, kept, rfl, unhide HSC, unhide HS4⟩
      · have hx0' : (x != 0) = true := bne_iff_ne.2 hx0
        have HSC := hide ((unhide HT).stop (unhide HNE) (unhide HX).symm hx0)
        clear hblk x0 x1 hx0
        go_wp2_with fail
        go_ret3
        exact ⟨_, out, enn, x, _, kept, rfl, unhide HSC, unhide HS3⟩
    · have hlt' : ¬ (t : Int) < (n : Int) := by omega
      have HDN := hide ((unhide HT).done (List.drop_of_length_le (by rw [unhide HBL]; omega)))
      rw [← unhide HNK] at HDN
      by_cases hk0 : 0 < nk
      · rw [if_pos hk0] at HDN
        have hk0' : (nk : Int) > 0 := by omega
        go_wp2_with fail
        go_ret3
        exact ⟨_, out, enn, 32, _, kept, rfl, unhide HDN, unhide HS⟩
      · rw [if_neg hk0] at HDN
        have hk0' : nk = 0 := by omega
        subst hk0'
        go_wp2_with fail
        go_ret3
        exact ⟨_, out, enn, 0, _, kept, rfl, unhide HDN, unhide HS⟩
theorem landScan_any (a : Option Addr) (n c : Nat) (b : List UInt8) (w : World) (h : Bytes w (.slice a n c) b) (hl : n ≤ 1048576) : Calls Try.prog 51 #[.slice a n c] w fun e w' => ScanAt w b e w' := by
  refine (landScanN_any a n c b w h hl).mono ?_
  rintro e w' ⟨v, bs, m, x, vk, kept, he, hs, hN⟩
  exact ⟨v, bs, m, x, he, hs, hN.batches, hN.bb⟩
end Go.Proofs.Ytflfiobicapopaa

namespace Go.Proofs.Ytflfiobicapopaa
open Go.RowKit

/-- The bytes under way: a head, and as many noughts as there are to come. -/
theorem put_b1 (m : Nat) (k : UInt8) : (List.replicate (9 + m) (0 : UInt8)).set 4 k = [0, 0, 0, 0, k, 0, 0, 0, 0] ++ List.replicate m 0 := by
  rw [Nat.add_comm]
  rfl
theorem put_b2 (m n : Nat) (k : UInt8) : fourAt ([0, 0, 0, 0, k, 0, 0, 0, 0] ++ List.replicate m 0) 5 n 4 = ([0, 0, 0, 0, k] ++ four n) ++ List.replicate m 0 := by
  show _ :: _ :: _ :: _ :: _ :: UInt8.ofNat (n / 256 ^ 0 % 256) :: _ = _
  rw [Nat.pow_zero, Nat.div_one]
  rfl
theorem put_b3 (n : Nat) (k : UInt8) (d : List UInt8) : overAt (([0, 0, 0, 0, k] ++ four n) ++ List.replicate d.length 0) 9 d = ([0, 0, 0, 0, k] ++ four n) ++ d := overAt_behind ([0, 0, 0, 0, k] ++ four n) _ d (by simp)
theorem put_b4 (r : RecD) (S : Nat) : fourAt (([0, 0, 0, 0, r.k] ++ four r.d.length) ++ r.d) 0 S 4 = four S ++ r.rest := by
  show UInt8.ofNat (S / 256 ^ 0 % 256) :: _ = _
  rw [Nat.pow_zero, Nat.div_one]
  rfl

section
variable (r : RecD) (a : Option Addr) (n c : Nat) (w : World)

set_option maxRecDepth 100000 in
set_option maxHeartbeats 4000000 in
theorem recPut_bad (h : Bytes w (.slice a n c) r.d) (hr : ¬ r.right) : Calls Try.prog 56 #[.agg #[.int .u8 (r.k.toNat : Nat), .slice a n c]] w fun e w' => ∃ v, e = .returned (.tuple #[v, .int .i64 (putErr r)]) ∧ Bytes w' v (putOf r) ∧ Below w.heap.size w w' := by
  obtain ⟨hn, hnc⟩ := bytes_len h
  have e0 : putOf r = [] := by unfold putOf; rw [if_neg fun e => hr (putErr_zero.1 e)]
  rw [e0]
  by_cases hk : 1 ≤ r.k.toNat ∧ r.k.toNat ≤ 2
  · have h3 : 4096 < n := by unfold RecD.right at hr; omega
    have e1 : putErr r = 31 := by unfold putErr; rw [if_neg (by omega), if_pos (by omega)]
    rw [e1]
    have HK := hide (decide_eq_true hk)
    have g3 : (n : Int) > 4096 := by omega
    clear e0 e1 hr h hk hn h3
    go_enter Try.func56, Try.ntmps56
    go_wp2_with fail
    refine (isKind_any _ _).mono ?_
    rintro e w' ⟨rfl, rfl⟩
    rw [unhide HK]
    go_wp2_with fail
    go_ret2
    exact ⟨_, rfl, .inl ⟨rfl, rfl⟩, (Below.refl _ w).alloc (Nat.le_refl _) _⟩
  · have e1 : putErr r = 30 := by unfold putErr; rw [if_pos (by omega)]
    rw [e1]
    have HK := hide (decide_eq_false hk)
    clear e0 e1 hr h hk hn
    go_enter Try.func56, Try.ntmps56
    go_wp2_with fail
    refine (isKind_any _ _).mono ?_
    rintro e w' ⟨rfl, rfl⟩
    rw [unhide HK]
    go_wp2_with fail
    go_ret2
    exact ⟨_, rfl, .inl ⟨rfl, rfl⟩, (Below.refl _ w).alloc (Nat.le_refl _) _⟩

set_option maxRecDepth 100000 in
set_option maxHeartbeats 4000000 in
theorem recPut_ok (h : Bytes w (.slice a n c) r.d) (hr : r.right) : Calls Try.prog 56 #[.agg #[.int .u8 (r.k.toNat : Nat), .slice a n c]] w fun e w' => ∃ v, e = .returned (.tuple #[v, .int .i64 (putErr r)]) ∧ Bytes w' v (putOf r) ∧ Below w.heap.size w w' := by
  obtain ⟨hn, hnc⟩ := bytes_len h
  have e0 : putOf r = r.put := if_pos (putErr_zero.2 hr)
  rw [e0, putErr_zero.2 hr]
  have HK := hide (decide_eq_true hr.1)
  have g3 : ¬ (n : Int) > 4096 := by have := hr.2; omega
  obtain ⟨N, hN⟩ : ∃ N, N = 9 + n := ⟨_, rfl⟩
  have HLG : Hid ((if 0 ≤ (n : Int) ∧ (n : Int) ≤ 4096 then (n : Int) + 9 else 0) = (N : Int)) := by show _ = _; rw [if_pos (by omega)]; omega
  obtain ⟨Z, hZ, hmk⟩ := makeBytes N (by omega)
  have hb1 : Below w.heap.size w (w.alloc (.cells #[.int .u8 (r.k.toNat : Nat), .slice a n c] 99)) := (Below.refl _ w).alloc (Nat.le_refl _) _
  have hx1 : (w.alloc (.cells #[.int .u8 (r.k.toNat : Nat), .slice a n c] 99)).heap[w.heap.size]? = some (.cells #[.int .u8 (r.k.toNat : Nat), .slice a n c] 99 (0, 0)) := heap_alloc_new w _
  have HHd := hide (h.alloc (.cells #[.int .u8 (r.k.toNat : Nat), .slice a n c] 99))
  have HX1 := hide hx1
  have HB1 := hide hb1
  have HR := hide hr
  have HN := hide hn
  have HZ := hide hZ
  have HNN := hide hN
  have HSm : Hid (N ≤ 1048576) := by show N ≤ _; omega
  clear e0 hr h hx1 hb1 hn hZ hN
  go_enter Try.func56, Try.ntmps56
  go_wp2_with fail
  refine (isKind_any _ _).mono ?_
  rintro e w' ⟨rfl, rfl⟩
  rw [unhide HK]
  go_upto_region 5 with fail
  obtain ⟨g1, hg1⟩ : ∃ g, g = w.heap.size := ⟨_, rfl⟩
  rw [← hg1] at HX1 ⊢
  clear hg1
  generalize w.alloc _ = w1 at *
  have hgl : g1 < w1.heap.size := (Array.getElem?_eq_some_iff.1 (unhide HX1)).1
  have y0 : w1.cell? ⟨g1, 0, none⟩ = some (.int .u8 (r.k.toNat : Nat)) := cell_of_row _ _ 0 _ _ _ (unhide HX1)
  have y1 : w1.cell? ⟨g1, 1, none⟩ = some (.slice a n c) := cell_of_row _ _ 1 _ _ _ (unhide HX1)
  go_wp2_with fail
  refine (long_any _ _).mono ?_
  rintro e w' ⟨rfl, rfl⟩
  rw [unhide HLG]
  go_upto_region 6 with fail
  have HO2 := hide (Own.made w' (unhide HZ) (unhide HSm))
  obtain ⟨G, hG⟩ : ∃ G, G = w'.heap.size := ⟨_, rfl⟩
  rw [← hG] at HO2 hgl ⊢
  have hmx := unhide HNN
  have HB2 := hide ((unhide HB1).trans ((unhide HO2).bb.mono (unhide HB1).size))
  generalize w'.alloc (.cells Z 5) = w2 at *
  have y0 : w2.cell? ⟨g1, 0, none⟩ = some (.int .u8 (r.k.toNat : Nat)) := cell_of_row _ _ 0 _ _ _ (((unhide HO2).bb.block g1 (by rw [← hG]; exact hgl)).trans (unhide HX1))
  obtain ⟨⟨x4, c4⟩, f4, p4⟩ := (unhide HO2).put (by simp) (k := 4) (by omega)
  have HO3 := hide (p4 r.k.toNat r.k.toNat_lt)
  have hN9 : 9 ≤ N := by omega
  have HGL : Hid (g1 < w'.heap.size) := by rw [← hG]; exact hgl
  clear p4 y1 hG hmx hmk
  go_upto_region 7 with fail
  clear y0 c4 f4 HO2
  rw [UInt8.ofNat_toNat, unhide HNN, put_b1, ← unhide HNN] at HO3
  generalize w2.setCell _ _ = w3 at *
  have y1 : w3.cell? ⟨g1, 1, none⟩ = some (.slice a n c) := cell_of_row _ _ 1 _ _ _ (((unhide HO3).bb.block g1 (unhide HGL)).trans (unhide HX1))
  obtain ⟨q5, q5'⟩ := slice_row G N N 5 (by omega) (by omega)
  replace q5 : ∀ W : World, (Instr.slice 49 (.slice (some ⟨G, 0, none⟩) N N) (some (.int .i64 5)) none none).run Try.prog W = .ok (.slice (some ⟨G, 5, none⟩) (N - 5) (N - 5)) W := fun W => q5 W
  replace q5' : ∀ W : World, (Instr.sliceAt 49 (.slice (some ⟨G, 0, none⟩) N N) (some (.int .i64 5)) none none).run Try.prog W = .ok (.slice (some ⟨G, 5, none⟩) (N - 5) (N - 5)) W := fun W => q5' W
  have hwr : IntKind.u32.wrap (n : Int) = (n : Int) := by rw [IntKind.wrap_u32']; omega
  have HL3 : Hid (([0, 0, 0, 0, r.k, 0, 0, 0, 0] ++ List.replicate n (0 : UInt8)).length = N) := by show _ = _; rw [unhide HNN]; simp; omega
  go_region_with (go_at_call 83; refine (putNumber_any (by exact (unhide HO3).later ((Below.refl _ _).drew)) (unhide HL3) 5 (N - 5) (N - 5) n (by omega) (by omega) (by omega)).mono ?_; rintro e w4 ⟨rfl, hO4⟩)
  all_goals (
    rw [put_b2] at hO4
    have HO4 := hide hO4
    clear hO4 HO3 y1 q5 q5' hwr HL3
    go_upto_region 8 with fail
    have y1 : w4.cell? ⟨g1, 1, none⟩ = some (.slice a n c) := cell_of_row _ _ 1 _ _ _ (((unhide HO4).bb.block g1 (unhide HGL)).trans (unhide HX1))
    have HO4d : Hid (Own w' (.slice (some ⟨G, 0, none⟩) N N) (([0, 0, 0, 0, r.k] ++ four n) ++ List.replicate n (0 : UInt8)) w4.drew) := (unhide HO4).later ((Below.refl _ _).drew)
    have HHd4 : Hid (Bytes w4.drew (.slice a n c) r.d) := (unhide HHd).kept fun k _ hk => (unhide HO4d).bb.block k hk
    obtain ⟨dv, q9, q9', hcp, hO5⟩ := copy_behind (l := 9) (unhide HO4d) (by rw [unhide HNN]; simp [four_len]; omega) (unhide HNN) (unhide HHd4) 3
    have HCP := hide hcp
    rw [← unhide HN, put_b3, unhide HN] at hO5
    have HO5 := hide hO5
    replace q9 : ∀ W : World, (Instr.slice 49 (.slice (some ⟨G, 0, none⟩) N N) (some (.int .i64 9)) none none).run Try.prog W = .ok (.slice (some dv) (N - 9) (N - 9)) W := fun W => q9 W
    replace q9' : ∀ W : World, (Instr.sliceAt 49 (.slice (some ⟨G, 0, none⟩) N N) (some (.int .i64 9)) none none).run Try.prog W = .ok (.slice (some dv) (N - 9) (N - 9)) W := fun W => q9' W
    clear hcp hO5
    go_region_law (refine step_copy_run rfl (.tmp 30) (.tmp 32) 49 49 rfl (.slice (some dv) (N - 9) (N - 9)) (.slice a n c) (goInt n) (by simp [Act.eval]) (by simp [Act.eval]) (unhide HCP) ?_)
    clear HCP q9 q9' y1 HO4d HHd4 HO4
    generalize w4.drew.setCells _ _ _ = w5 at *
    obtain ⟨s4, k4, B4, q4, q4'⟩ := slice_from (l := 4) (bytes_of_owns (unhide HO5).own |> fun h => (show Bytes w5 (.slice (some ⟨G, 0, none⟩) N N) (([0, 0, 0, 0, r.k] ++ four n) ++ r.d) from h)) (by omega)
    replace B4 : Bytes w5 (.slice s4 (N - 4) k4) r.rest := by
      have e : (([0, 0, 0, 0, r.k] ++ four n) ++ r.d).drop 4 = r.rest := by rw [← unhide HN]; rfl
      rwa [e] at B4
    have H4 := hide B4
    replace q4 : ∀ W : World, (Instr.slice 49 (.slice (some ⟨G, 0, none⟩) N N) (some (.int .i64 4)) none none).run Try.prog W = .ok (.slice s4 (N - 4) k4) W := fun W => q4 W
    replace q4' : ∀ W : World, (Instr.sliceAt 49 (.slice (some ⟨G, 0, none⟩) N N) (some (.int .i64 4)) none none).run Try.prog W = .ok (.slice s4 (N - 4) k4) W := fun W => q4' W
    have HLr : Hid (r.rest.length ≤ 1048576) := by show _ ≤ _; rw [rest_len, unhide HN]; omega
    clear B4
    go_wp2_with fail
    refine (sum_any (.slice s4 (N - 4) k4) r.rest _ (unhide H4) (unhide HLr)).mono ?_
    rintro e w6 ⟨rfl, hb6⟩
    have HO6 := hide ((unhide HO5).later hb6)
    have HSL := hide (sum_lt r.rest)
    have HL6 : Hid ((([0, 0, 0, 0, r.k] ++ four n) ++ r.d).length = N) := by show _ = _; rw [unhide HNN, List.length_append, List.length_append, four_len, unhide HN]; rfl
    have HP : Hid (r.put = four (sumB r.rest) ++ r.rest) := rfl
    generalize sumB r.rest = S at *
    clear hb6 HO5 H4 q4 q4'
    go_wp2_with fail
    refine (putNumber_any (unhide HO6) (unhide HL6) 0 N N S (unhide HSL) (by omega) (by omega)).mono ?_
    rintro e w7 ⟨rfl, hO7⟩
    have HO7 : Hid (Own w' (.slice (some ⟨G, 0, none⟩) N N) r.put w7) := by
      have h7 := hO7
      rw [← unhide HN, put_b4, ← unhide HP] at h7
      exact h7
    clear hO7 HO6
    go_wp2_with fail
    go_ret2
    exact ⟨_, rfl, bytes_of_owns (unhide HO7).own, (unhide HB1).trans ((unhide HO7).bb.mono (unhide HB1).size)⟩)

theorem recPut_any (h : Bytes w (.slice a n c) r.d) : Calls Try.prog 56 #[.agg #[.int .u8 (r.k.toNat : Nat), .slice a n c]] w fun e w' => ∃ v, e = .returned (.tuple #[v, .int .i64 (putErr r)]) ∧ Bytes w' v (putOf r) ∧ Below w.heap.size w w' := by
  by_cases hr : r.right
  · exact recPut_ok r a n c w h hr
  · exact recPut_bad r a n c w h hr
end
end Go.Proofs.Ytflfiobicapopaa
