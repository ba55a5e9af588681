/- Rows of rows of bytes that are ours. Our own definitions; no statement of the seat is proved here. -/
import Derived.Test.YtbbglgfgelnncaaRecRef5
import Derived.Test.YtbbglgfgelnncaaRowsLow
import Derived.Maps.AppendAt
namespace Go.Proofs.Ytbbglgfgelnncaa
open Go.RowKit

theorem infoRow0 : (Try.prog.info? 23).map (fun i => (i.zero, i.size, i.bytes)) = some (some (.slice none 0 0), 1, 24) := by kernel_rfl
theorem infoRows0 : (Try.prog.info? 22).map (fun i => (i.zero, i.size, i.bytes)) = some (some (.slice none 0 0), 1, 24) := by kernel_rfl

/-- A row of ours, of rows that were there in w. -/
structure RowsO (w : World) (v : Value) (rows : List (List UInt8)) (W : World) : Prop where
  own : ∃ vs, W.ownsRow 0 23 1 v rows.length vs ∧ ∀ (i : Nat) x, rows[i]? = some x → ∃ u, vs[i]? = some u ∧ Bytes w u x
  new : ∀ k, v.ownBlock = some k → w.heap.size ≤ k
theorem RowsO.start (w : World) (W : World) : RowsO w (.slice none 0 0) [] W := ⟨⟨[], World.ownsRow_nil _ _ _ _, fun i x hx => (by cases hx)⟩, fun k hk => (by cases hk)⟩
theorem RowsO.keep {w W W' : World} {v : Value} {rows : List (List UInt8)} (h : RowsO w v rows W) (hk : ∀ k, v.ownBlock = some k → k < W.heap.size → W'.heap[k]? = W.heap[k]?) : RowsO w v rows W' := by
  obtain ⟨⟨vs, h1, h2⟩, h3⟩ := h
  exact ⟨⟨vs, row_keeps h1 fun k e => hk k e (h1.lt k e).2, h2⟩, h3⟩
theorem RowsO.lt {w W : World} {v : Value} {rows : List (List UInt8)} (h : RowsO w v rows W) : ∀ k, v.ownBlock = some k → k < W.heap.size := by
  obtain ⟨⟨vs, h1, _⟩, _⟩ := h
  exact fun k hk => (h1.lt k hk).2
theorem row_at {α : Type} {E : World → Value → α → Prop} {W : World} {e : TypeId} {v : Value} {xs : List α} {vs : List Value} (h1 : W.ownsRow 0 e 1 v xs.length vs) (h2 : ∀ (i : Nat) x, xs[i]? = some x → ∃ u, vs[i]? = some u ∧ E W u x) : ListAt E W v xs := by
  rcases h1.2 with ⟨rfl, h0⟩ | ⟨g, cap, cur, rfl, _, _, h4, _⟩
  · exact .inl ⟨⟨_, _, rfl⟩, List.eq_nil_of_length_eq_zero h0⟩
  · refine .inr ⟨g, 0, cap, rfl, h4, fun i x hx => ?_⟩
    obtain ⟨u, e1, e2⟩ := h2 i x hx
    have hc := h1.cells (g := g) rfl _ _ e1
    rw [Addr.add_mid] at hc
    exact ⟨u, hc, e2⟩
theorem RowsO.rowsAt {w W : World} {v : Value} {rows : List (List UInt8)} (h : RowsO w v rows W) (hb : Below w.heap.size w W) : RowsAt W v rows := by
  obtain ⟨⟨vs, h1, h2⟩, _⟩ := h
  exact row_at h1 fun i x hx => by obtain ⟨u, e1, e2⟩ := h2 i x hx; exact ⟨u, e1, e2.later hb⟩
theorem RowsO.form {w W : World} {v : Value} {rows : List (List UInt8)} (h : RowsO w v rows W) : ∃ a c, v = .slice a rows.length c := by
  obtain ⟨⟨vs, h1, _⟩, _⟩ := h
  rcases h1.2 with ⟨rfl, h0⟩ | ⟨g, cap, cur, rfl, _⟩
  · exact ⟨_, _, by rw [h0]⟩
  · exact ⟨_, _, rfl⟩
/-- A row is appended. -/
theorem RowsO.snoc {w W' : World} {v' : Value} {rows : List (List UInt8)} {d : List UInt8} {u : Value} {vs : List Value} (h2 : ∀ (i : Nat) x, rows[i]? = some x → ∃ u, vs[i]? = some u ∧ Bytes w u x) (hl : vs.length = rows.length) (hu : Bytes w u d) (r1 : W'.ownsRow 0 23 1 v' (rows.length + 1) (vs ++ [u])) (hn : ∀ k, v'.ownBlock = some k → w.heap.size ≤ k) : RowsO w v' (rows ++ [d]) W' := by
  refine ⟨⟨vs ++ [u], by rw [List.length_append, List.length_singleton]; exact r1, fun i x hx => ?_⟩, hn⟩
  by_cases hi : i < rows.length
  · rw [List.getElem?_append_left hi] at hx
    obtain ⟨u', e1, e2⟩ := h2 i x hx
    exact ⟨u', by rw [List.getElem?_append_left (by omega)]; exact e1, e2⟩
  · have hi2 : i = rows.length := by have := (List.getElem?_eq_some_iff.1 hx).1; rw [List.length_append, List.length_singleton] at this; omega
    rw [hi2, List.getElem?_append_right (Nat.le_refl _), Nat.sub_self] at hx
    cases hx
    exact ⟨u, by rw [hi2, ← hl, List.getElem?_append_right (Nat.le_refl _), Nat.sub_self]; rfl, hu⟩

/-- Batches that are told, and rows that are kept, all ours, of rows that were there in w. -/
structure ScanSt (w : World) (vo : Value) (out : List (List (List UInt8))) (vk : Value) (kept : List (List UInt8)) (W : World) : Prop where
  bb : Below w.heap.size w W
  rows : RowsO w vk kept W
  outs : ∃ vs, W.ownsRow 0 22 1 vo out.length vs ∧ ∀ (i : Nat) x, out[i]? = some x → ∃ u, vs[i]? = some u ∧ RowsO w u x W ∧ ∀ k, u.ownBlock = some k → vk.ownBlock ≠ some k
  new : ∀ k, vo.ownBlock = some k → w.heap.size ≤ k
theorem ScanSt.start (w : World) : ScanSt w (.slice none 0 0) [] (.slice none 0 0) [] w := ⟨Below.refl _ w, RowsO.start w w, ⟨[], World.ownsRow_nil _ _ _ _, fun i x hx => (by cases hx)⟩, fun k hk => (by cases hk)⟩
theorem ScanSt.later {w W W' : World} {vo vk : Value} {out : List (List (List UInt8))} {kept : List (List UInt8)} (h : ScanSt w vo out vk kept W) (hb : Below W.heap.size W W') : ScanSt w vo out vk kept W' := by
  obtain ⟨vs, h1, h2⟩ := h.outs
  exact ⟨h.bb.trans (hb.mono h.bb.size), h.rows.keep fun k _ hk => hb.block k hk, ⟨vs, row_keeps h1 fun k e => hb.block k (h1.lt k e).2, fun i x hx => by
    obtain ⟨u, e1, e2, e3⟩ := h2 i x hx
    exact ⟨u, e1, e2.keep fun k _ hk => hb.block k hk, e3⟩⟩, h.new⟩
theorem ScanSt.alloc {w W : World} {vo vk : Value} {out : List (List (List UInt8))} {kept : List (List UInt8)} (h : ScanSt w vo out vk kept W) (o : Obj) : ScanSt w vo out vk kept (W.alloc o) := h.later ((Below.refl _ W).alloc (Nat.le_refl _) o)
theorem ScanSt.batches {w W : World} {vo vk : Value} {out : List (List (List UInt8))} {kept : List (List UInt8)} (h : ScanSt w vo out vk kept W) : BatchesAt W vo out := by
  obtain ⟨vs, h1, h2⟩ := h.outs
  exact row_at h1 fun i x hx => by obtain ⟨u, e1, e2, _⟩ := h2 i x hx; exact ⟨u, e1, e2.rowsAt h.bb⟩
theorem ScanSt.formO {w W : World} {vo vk : Value} {out : List (List (List UInt8))} {kept : List (List UInt8)} (h : ScanSt w vo out vk kept W) : ∃ a c, vo = .slice a out.length c := by
  obtain ⟨vs, h1, _⟩ := h.outs
  rcases h1.2 with ⟨rfl, h0⟩ | ⟨g, cap, cur, rfl, _⟩
  · exact ⟨_, _, by rw [h0]⟩
  · exact ⟨_, _, rfl⟩
/-- Blocks of unlike types are apart. -/
theorem own_apart {W : World} {e1 e2 : TypeId} {v1 v2 : Value} {n1 n2 : Nat} {xs1 xs2 : List Value} (h1 : W.ownsRow 0 e1 1 v1 n1 xs1) (h2 : W.ownsRow 0 e2 1 v2 n2 xs2) (hne : e1 ≠ e2) : ∀ k, v1.ownBlock = some k → v2.ownBlock ≠ some k := by
  intro k hk hk2
  rcases h1.2 with ⟨rfl, _⟩ | ⟨g, c, cur, rfl, _, hg, _⟩
  · cases hk
  rcases h2.2 with ⟨rfl, _⟩ | ⟨g', c', cur', rfl, _, hg', _⟩
  · cases hk2
  simp [Value.ownBlock] at hk hk2
  subst hk hk2
  rw [hg] at hg'
  simp only [Option.some.injEq, Obj.cells.injEq] at hg'
  exact hne hg'.2.1

/-- 'kept = append(kept, d)'. -/
theorem wpList_append_kept {w W : World} {ops : Array Oper} {rest : List Oper} {op : Oper} {a : Act} {Q : Exit → Act → World → Prop}
    (hg : op.guard = none) (s x : Operand) (hop : op.op = Op.call { callee := Callee.builtin Builtin.append, args := #[s, x], argTypes := #[22, 22] })
    (vo vk u : Value) (out : List (List (List UInt8))) (kept : List (List UInt8)) (d : List UInt8) (g cap : Nat) (hsv : a.eval s = vk) (hS : ScanSt w vo out vk kept W) (hx : a.eval x = .slice (some ⟨g, 0, none⟩) 1 cap)
    (h0 : W.cell? ⟨g, 0, none⟩ = some u) (hu1 : u.oneCell' = true) (hu : Bytes w u d) (hl : kept.length ≤ 1048576)
    (hK : ∀ v' W', ScanSt w vo out v' (kept ++ [d]) W' → wpList Try.prog ops Q rest (a.put op.dst v') W') :
    wpList Try.prog ops Q (op :: rest) a W := by
  obtain ⟨ti, hti, hy0, hy1, hy2⟩ := info_parts infoRow0
  obtain ⟨⟨vs, h1, h2⟩, hnew⟩ := hS.rows
  obtain ⟨ws, o1, o2⟩ := hS.outs
  have hvl : vs.length = kept.length := by have := h1.1; omega
  refine wpList_append_own_at W hg s x 22 hop 0 23 ti (.slice none 0 0) 1 24 Try.underlying22 hti hy0 hy1 hy2 rfl (by decide) vk _ _ hsv h1 ⟨g, 0, none⟩ 1 cap [u] hx rfl (fun j u' hj => by
    match j, hj with
    | 0, hj => cases hj; exact h0) (fun u' hu' => by rw [List.mem_singleton] at hu'; rw [hu']; exact hu1) (by unfold maxLen; omega) (by omega) (Nat.zero_le _) ?_
  intro v' W' r1 r2 _ r3
  have hn' : ∀ k, v'.ownBlock = some k → w.heap.size ≤ k := fun k hk => by
    rcases r3 with e | e
    · exact hnew k (by rw [← e]; exact hk)
    · rw [e] at hk; cases hk; exact hS.bb.size
  refine hK v' W' ⟨hS.bb.grown r2 hS.bb.size hnew, RowsO.snoc h2 hvl hu r1 hn', ⟨ws, row_keeps o1 fun k e => r2.block k (o1.lt k e).2 fun e' => own_apart o1 h1 (by decide) k e e'.symm, fun i x' hx' => ?_⟩, hS.new⟩
  obtain ⟨u', e1, e2, e3⟩ := o2 i x' hx'
  refine ⟨u', e1, e2.keep fun k e hk => r2.block k hk fun e' => e3 k e e'.symm, fun k e e' => ?_⟩
  rcases r3 with e4 | e4
  · exact e3 k e (by rw [← e4]; exact e')
  · rw [e4] at e'
    cases e'
    have := e2.lt _ e
    omega
/-- 'out = append(out, kept)', and then nothing is kept. -/
theorem wpList_append_out {w W : World} {ops : Array Oper} {rest : List Oper} {op : Oper} {a : Act} {Q : Exit → Act → World → Prop}
    (hg : op.guard = none) (s x : Operand) (hop : op.op = Op.call { callee := Callee.builtin Builtin.append, args := #[s, x], argTypes := #[33, 33] })
    (vo vk : Value) (out : List (List (List UInt8))) (kept : List (List UInt8)) (g cap : Nat) (hsv : a.eval s = vo) (hS : ScanSt w vo out vk kept W) (hx : a.eval x = .slice (some ⟨g, 0, none⟩) 1 cap)
    (h0 : W.cell? ⟨g, 0, none⟩ = some vk) (hu1 : vk.oneCell' = true) (hl : out.length ≤ 1048576)
    (hK : ∀ v' W', ScanSt w v' (out ++ [kept]) (.slice none 0 0) [] W' → wpList Try.prog ops Q rest (a.put op.dst v') W') :
    wpList Try.prog ops Q (op :: rest) a W := by
  obtain ⟨ti, hti, hy0, hy1, hy2⟩ := info_parts infoRows0
  obtain ⟨ws, o1, o2⟩ := hS.outs
  obtain ⟨⟨vs, h1, h2⟩, hnew⟩ := hS.rows
  have hwl : ws.length = out.length := by have := o1.1; omega
  refine wpList_append_own_at W hg s x 33 hop 0 22 ti (.slice none 0 0) 1 24 Try.underlying33 hti hy0 hy1 hy2 rfl (by decide) vo _ _ hsv o1 ⟨g, 0, none⟩ 1 cap [vk] hx rfl (fun j u' hj => by
    match j, hj with
    | 0, hj => cases hj; exact h0) (fun u' hu' => by rw [List.mem_singleton] at hu'; rw [hu']; exact hu1) (by unfold maxLen; omega) (by omega) (Nat.zero_le _) ?_
  intro v' W' r1 r2 _ r3
  have hkp : ∀ (u : Value) (x : List (List UInt8)), RowsO w u x W → RowsO w u x W' := fun u x hR => by
    have hR2 := hR
    obtain ⟨⟨us, g1, _⟩, _⟩ := hR
    exact hR2.keep fun k e hk => r2.block k hk fun e' => own_apart g1 o1 (by decide) k e e'.symm
  refine hK v' W' ⟨hS.bb.grown r2 hS.bb.size hS.new, RowsO.start w W', ⟨ws ++ [vk], by rw [List.length_append, List.length_singleton]; exact r1, fun i x' hx' => ?_⟩, fun k hk => ?_⟩
  · by_cases hi : i < out.length
    · rw [List.getElem?_append_left hi] at hx'
      obtain ⟨u', e1, e2, e3⟩ := o2 i x' hx'
      exact ⟨u', by rw [List.getElem?_append_left (by omega)]; exact e1, hkp u' x' e2, fun k e e' => by cases e'⟩
    · have hi2 : i = out.length := by have := (List.getElem?_eq_some_iff.1 hx').1; rw [List.length_append, List.length_singleton] at this; omega
      rw [hi2, List.getElem?_append_right (Nat.le_refl _), Nat.sub_self] at hx'
      cases hx'
      exact ⟨vk, by rw [hi2, ← hwl, List.getElem?_append_right (Nat.le_refl _), Nat.sub_self]; rfl, hkp vk kept hS.rows, fun k e e' => by cases e'⟩
  · rcases r3 with e | e
    · exact hS.new k (by rw [← e]; exact hk)
    · rw [e] at hk; cases hk; exact hS.bb.size
end Go.Proofs.Ytbbglgfgelnncaa
