/- A row with room behind it, in a block of any type, and append into its room. Our own definitions; no statement of the seat is proved here. -/
import Derived.Test.YtifnjdplbdpelaaGenStep
import Derived.OwnWalkIn
import Derived.Lib.AppendStr
import Derived.Laws.MakeOwn
namespace Go.Proofs.Ytifnjdplbdpelaa
open Go.RowKit Go.Lib

/-- Block g, of type t, holds C cells, the first of which are bs; it is new since w0. -/
structure Room (w0 : World) (t : TypeId) (g C : Nat) (bs : List UInt8) (W : World) : Prop where
  own : ∃ cur : Array Value, W.heap[g]? = some (.cells cur t (0, 0)) ∧ cur.size = C ∧ cur.toList.take bs.length = bs.map bv
  le : bs.length ≤ C
  cm : C ≤ maxLen
  new : w0.heap.size ≤ g
  bb : Below w0.heap.size w0 W
section
variable {w0 W W' : World} {t : TypeId} {g C : Nat} {bs : List UInt8}
theorem Room.to (h : Room w0 t g C bs W) (hb : Below w0.heap.size w0 W') (hk : W'.heap[g]? = W.heap[g]?) : Room w0 t g C bs W' := by
  obtain ⟨⟨cur, h1, h2, h3⟩, h4, h5, h6, _⟩ := h
  exact ⟨⟨cur, hk.trans h1, h2, h3⟩, h4, h5, h6, hb⟩
theorem Room.lt (h : Room w0 t g C bs W) : g < W.heap.size := by
  obtain ⟨cur, h1, _⟩ := h.own
  exact (Array.getElem?_eq_some_iff.1 h1).1
theorem Room.later (h : Room w0 t g C bs W) (hb : Below W.heap.size W W') : Room w0 t g C bs W' := h.to (h.bb.trans (hb.mono h.bb.size)) (hb.block g h.lt)
theorem Room.alloc (h : Room w0 t g C bs W) (o : Obj) : Room w0 t g C bs (W.alloc o) := h.later ((Below.refl _ W).alloc (Nat.le_refl _) _)
theorem Room.drewN (h : Room w0 t g C bs W) (n : Nat) : Room w0 t g C bs (W.drewN n) := h.to ⟨h.bb.os, h.bb.tape, h.bb.output, h.bb.size, h.bb.block⟩ rfl
theorem Room.drew (h : Room w0 t g C bs W) : Room w0 t g C bs W.drew := h.to h.bb.drew rfl
theorem Room.set (h : Room w0 t g C bs W) {p : Addr} (hp : p.block ≠ g) (hn : w0.heap.size ≤ p.block) (v : Value) : Room w0 t g C bs (W.setCell p v) := h.to (h.bb.setCell hn v) (Below.heap_setCell _ _ _ _ (fun e => hp e.symm))
/-- A row of our own has room. -/
theorem Room.of_own {cap n : Nat} (h : Own w0 (.slice (some ⟨g, 0, none⟩) n cap) bs W) (_ : bs.length = n) : Room w0 5 g cap bs W := by
  rcases h.own.2 with ⟨e, _⟩ | ⟨g', cap', cur, e, _, h1, h2, h3, h4, h5⟩
  · cases e
  · simp only [Value.slice.injEq, Option.some.injEq, Addr.mk.injEq, and_true] at e
    obtain ⟨rfl, _, rfl⟩ := e
    exact ⟨⟨cur, h1, by simpa using h4, by simpa using h5⟩, h2, h3, h.new g rfl, h.bb⟩
theorem Room.isOwn (h : Room w0 5 g C bs W) : Own w0 (.slice (some ⟨g, 0, none⟩) bs.length C) bs W := by
  obtain ⟨cur, h1, h2, h3⟩ := h.own
  exact ⟨⟨by simp, .inr ⟨g, C, cur, rfl, Nat.zero_le _, h1, h.le, h.cm, by simpa using h2, by simpa using h3⟩⟩, fun k hk => by simp [Value.ownBlock] at hk; subst hk; exact h.new, h.bb⟩
theorem Room.bytes (h : Room w0 t g C bs W) : Bytes W (.slice (some ⟨g, 0, none⟩) bs.length C) bs := by
  obtain ⟨cur, h1, h2, h3⟩ := h.own
  refine .inr ⟨⟨g, 0, none⟩, C, rfl, h.le, h.cm, fun j x hx => ?_⟩
  rw [Addr.add_mid, Nat.zero_add, cell_of_row _ _ _ _ _ _ h1]
  rw [← h3, List.getElem?_take] at hx
  split at hx
  · simpa using hx
  · cases hx

/-- append into the room. -/
theorem Room.append {P : Program} (h : Room w0 t g C bs W) {u : Value} {xs : List UInt8} (hu : Bytes W u xs) (hroom : bs.length + xs.length ≤ C) (tt ty e : TypeId) (i : TypeInfo) (ht : P.underlying tt = some (.slice e)) (hi : P.info? e = some i) (hs : i.size = 1) :
    ∃ W', (Builtin.append_ #[tt, tt] ty #[.slice (some ⟨g, 0, none⟩) bs.length C, u]).run P W = .ok (.slice (some ⟨g, 0, none⟩) (bs.length + xs.length) C) W' ∧ Room w0 t g C (bs ++ xs) W' ∧ W.grownBy W' (some g) := by
  obtain ⟨⟨cur, h1, h2, h3⟩, h4, h5, h6, hb⟩ := h
  rcases hu with ⟨rfl, rfl⟩ | ⟨ad, c, rfl, _, _, hr⟩
  · refine ⟨W, ?_, by rw [List.append_nil]; exact ⟨⟨cur, h1, h2, h3⟩, h4, h5, h6, hb⟩, World.grownBy.refl _ _⟩
    have hf : (Builtin.firstCells 1 0 (.slice none 0 0)).run P W = .ok #[] W := by simp [Builtin.firstCells, go_sem]
    simp [Builtin.append_, run_underlying ht, sizeOf, typeInfo, hi, hs, Builtin.lenOf, h4, hf, storeCells, Sem.run_pure]
  · have hn1 : (xs.map bv).length = xs.length * i.size := by simp [hs]
    have hf := run_firstCells_some (P := P) W i.size xs.length ad xs.length c (xs.map bv) hn1 hr
    have hst := run_storeCells_at P g (bs.length * i.size) t (xs.map bv) 0 cur W h1 (by simp [hs]; omega) (bv_one _)
    simp only [Nat.add_zero] at hst
    refine ⟨W.setRow g (cur.toList.take (bs.length * i.size) ++ xs.map bv ++ cur.toList.drop (bs.length * i.size + (xs.map bv).length)).toArray, ?_, ⟨⟨_, setRow_heap W g cur _ t _ h1, ?_, ?_⟩, by simpa using hroom, h5, h6, ?_⟩, ⟨rfl, rfl, rfl, by simp, fun k _ hk => setRow_other W g k _ (fun e => hk (by simp [e]))⟩⟩
    · simp [Builtin.append_, run_underlying ht, sizeOf, typeInfo, hi, Builtin.lenOf, hroom, hf, Addr.add_lit, hst]
    · simp only [List.size_toArray, List.length_append, List.length_take, List.length_drop, Array.length_toList, List.length_map, hs]
      omega
    · simp only [hs, Nat.mul_one, h3]
      rw [show (bs ++ xs).length = (bs.map bv ++ xs.map bv).length by simp, List.map_append]
      exact List.take_left
    · exact hb.trans ⟨rfl, rfl, rfl, by simp, fun k hk => setRow_other W g k _ (by omega)⟩
/-- append of a text into the room. -/
theorem Room.appendS {P : Program} (h : Room w0 t g C bs W) (s : List UInt8) (hroom : bs.length + s.length ≤ C) (tt u ty e : TypeId) (i : TypeInfo) (ht : P.underlying tt = some (.slice e)) (hu : P.underlying u = some .string) (hi : P.info? e = some i) (hs : i.size = 1) :
    ∃ W', (Builtin.append_ #[tt, u] ty #[.slice (some ⟨g, 0, none⟩) bs.length C, .string ⟨s.toArray⟩]).run P W = .ok (.slice (some ⟨g, 0, none⟩) (bs.length + s.length) C) W' ∧ Room w0 t g C (bs ++ s) W' ∧ W.grownBy W' (some g) := by
  obtain ⟨⟨cur, h1, h2, h3⟩, h4, h5, h6, hb⟩ := h
  have hsz : (⟨s.toArray⟩ : ByteArray).size = s.length := by simp [ByteArray.size]
  have hc : strCells ⟨s.toArray⟩ = s.map bv := by simp [strCells, bv]
  have hf := run_firstCells_string (P := P) W 1 ⟨s.toArray⟩
  have hst := run_storeCells_at P g bs.length t (s.map bv) 0 cur W h1 (by simp; omega) (bv_one _)
  simp only [Nat.add_zero] at hst
  rw [hc, hsz] at hf
  refine ⟨W.setRow g (cur.toList.take bs.length ++ s.map bv ++ cur.toList.drop (bs.length + (s.map bv).length)).toArray, ?_, ⟨⟨_, setRow_heap W g cur _ t _ h1, ?_, ?_⟩, by simpa using hroom, h5, h6, ?_⟩, ⟨rfl, rfl, rfl, by simp, fun k _ hk => setRow_other W g k _ (fun e => hk (by simp [e]))⟩⟩
  · simp [Builtin.append_, run_underlying ht, run_underlying hu, sizeOf, typeInfo, hi, hs, Builtin.lenOf, hroom, hf, hsz, Addr.add_lit, hst]
  · simp only [List.size_toArray, List.length_append, List.length_take, List.length_drop, Array.length_toList, List.length_map]
    omega
  · rw [h3, show (bs ++ s).length = (bs.map bv ++ s.map bv).length by simp, List.map_append]
    exact List.take_left
  · exact hb.trans ⟨rfl, rfl, rfl, by simp, fun k hk => setRow_other W g k _ (by omega)⟩
end

/-- append with its run laid, at the walk's list of operations inside a fence. -/
theorem wpListIn_append_run {F : Fence} {n : Nat} {P : Program} {w W' : World} {ops : Array Oper} {rest : List Oper} {o : Oper} {a : Act} {Q : Exit → Act → World → Prop}
    (hg : o.guard = none) (s x : Operand) (t u : TypeId) (hop : o.op = Op.call { callee := Callee.builtin Builtin.append, args := #[s, x], argTypes := #[t, u] }) (sv xv v : Value) (hs : a.eval s = sv) (hx : a.eval x = xv)
    (hrun : (Builtin.append_ #[t, u] o.type #[sv, xv]).run P w = .ok v W') (hK : wpListIn F n P ops Q rest (a.put o.dst v) W') : wpListIn F n P ops Q (o :: rest) a w := by
  refine wpListIn_plain hg fun K hK' => ?_
  unfold Oper.wpIn
  refine ⟨?_, ?_⟩
  · simp [Oper.about, hop, resolve, Target.leads, Sem.run_pure]
  · rw [Oper.semAt_plain F _ _ (by rw [hop]; intro c hc'; cases hc')]
    simp [execOp, hop, resolve, invoke, builtin, hs, hx, hrun, Result.andThen]
    exact hK' _ _ hK
theorem wpList_append_run {P : Program} {w W' : World} {ops : Array Oper} {rest : List Oper} {o : Oper} {a : Act} {Q : Exit → Act → World → Prop}
    (hg : o.guard = none) (s x : Operand) (t u : TypeId) (hop : o.op = Op.call { callee := Callee.builtin Builtin.append, args := #[s, x], argTypes := #[t, u] }) (sv xv v : Value) (hs : a.eval s = sv) (hx : a.eval x = xv)
    (hrun : (Builtin.append_ #[t, u] o.type #[sv, xv]).run P w = .ok v W') (hK : wpList P ops Q rest (a.put o.dst v) W') : wpList P ops Q (o :: rest) a w := by
  refine wpList_plain hg fun K hK' => ?_
  unfold Oper.wp
  simp [execOp, hop, resolve, invoke, builtin, hs, hx, hrun, Result.andThen]
  exact hK' _ _ hK

/-- make of no bytes, with room. -/
theorem wMakeRoom (n : Nat) (hn : n ≤ 1073741824) : ∃ Z : Array Value, Z.size = n ∧ ∀ W : World, (Instr.makeSlice 22 (.int .i64 0) (.int .i64 (n : Int))).run Try.prog W = .ok (.slice (some ⟨W.heap.size, 0, none⟩) 0 n) (W.alloc (.cells Z 5)) := by
  obtain ⟨i, hi, hz0, hz1, hz2⟩ := infoByte
  refine ⟨madeCells (Value.int .u8 0).cells (Int.toNat n * i.size), ?_, fun W => ?_⟩
  · rw [size_madeCells, hz1]; simp
  · have := run_make (P := Try.prog) W 22 5 i (.int .u8 0) Try.underlying22 hi hz0 .i64 .i64 0 n (by omega) (by omega) (by rw [hz2]; omega) (by omega)
    simpa using this
theorem Room.made (w : World) {n : Nat} {Z : Array Value} (hZ : Z.size = n) (hn : n ≤ 1073741824) : Room w 5 w.heap.size n [] (w.alloc (.cells Z 5)) :=
  ⟨⟨Z, heap_alloc_new w _, hZ, by simp⟩, Nat.zero_le _, by unfold maxLen; omega, Nat.le_refl _, (Below.refl _ w).alloc (Nat.le_refl _) _⟩
end Go.Proofs.Ytifnjdplbdpelaa
