/- Operations that hang on a test that is known to hold. No statement of the seat is proved here. -/
import Derived.Test.YtifnjdplbdpelaaGen
namespace Go.Proofs.Ytifnjdplbdpelaa
open Go.RowKit

theorem wpList_want {P : Program} {ops : Array Oper} {Q : Exit → Act → World → Prop} {a : Act} {w : World} {rest : List Oper} {o : Oper} (hw : Region.wanted o (yielded ops a.tmps) = true)
    (h : ∀ K : Act → World → Prop, (∀ a w, wpList P ops Q rest a w → K a w) → o.wp P a w K Q) : wpList P ops Q (o :: rest) a w :=
  wpList_step fun K hK => by rw [if_pos hw]; exact h K hK

theorem wpList_append_bytes_w {P : Program} (w : World) {ops : Array Oper} {rest : List Oper} {op : Oper} {a : Act} {Q : Exit → Act → World → Prop}
    (hg : Region.wanted op (yielded ops a.tmps) = true) (s x : Operand) (t : TypeId) (hop : op.op = Op.call { callee := Callee.builtin Builtin.append, args := #[s, x], argTypes := #[t, t] })
    (e : TypeId) (i : TypeInfo) (z : Value) (ht : P.underlying t = some (.slice e)) (hi : P.info? e = some i) (hz : i.zero = some z) (hs : i.size = 1) (hb : i.bytes = 1) (hzs : z.cells.size = 1)
    (v : Value) (xs : List UInt8) (hsv : a.eval s = v) (hown : w.ownsRow 0 e 1 v xs.length (xs.map bv)) (u : Value) (bs : List UInt8) (hxu : a.eval x = u) (hu : Bytes w u bs) (hl : xs.length + bs.length ≤ 140737488355328)
    (hK : ∀ v' w', w'.ownsRow 0 e 1 v' (xs ++ bs).length ((xs ++ bs).map bv) → w.grownBy w' v.ownBlock → (v'.ownBlock = v.ownBlock ∨ ∃ k, v'.ownBlock = some k ∧ w.heap.size ≤ k) → wpList P ops Q rest (a.put op.dst v') w') :
    wpList P ops Q (op :: rest) a w := by
  refine wpList_want hg fun K hK' => ?_
  obtain ⟨v', w', hrun, r1, r2, r3⟩ := run_append_bytes (P := P) w t op.type e i z ht hi hz hs hb hzs v xs hown u bs hu hl
  unfold Oper.wp
  simp [execOp, hop, resolve, invoke, builtin, hsv, hxu, hrun, Result.andThen]
  exact hK' _ _ (hK v' w' r1 r2 r3)

/-- max of two numbers, in one way. -/
theorem wpList_max2_w {P : Program} {w : World} {ops : Array Oper} {rest : List Oper} {op : Oper} {a : Act} {Q : Exit → Act → World → Prop} (hgd : Region.wanted op (yielded ops a.tmps) = true) (x y : Operand) (t s : TypeId)
    (ho : op.op = .call { callee := .builtin .max, args := #[x, y], argTypes := #[t, s] }) (k k' : IntKind) (m n : Int) (hx : a.eval x = .int k m) (hy : a.eval y = .int k' n)
    (h : wpList P ops Q rest (a.put op.dst (.int k (max m n))) w) : wpList P ops Q (op :: rest) a w := by
  refine wpList_want hgd fun K hK => ?_
  have hrun : (Builtin.max_ #[t, s] op.type #[.int k m, .int k' n]).run P w = .ok (.int k (max m n)) w := by
    rw [run_max_int2]; congr 2; split <;> omega
  unfold Oper.wp
  simp [execOp, ho, resolve, invoke, builtin, hx, hy, hrun, Result.andThen]
  exact hK _ _ h
end Go.Proofs.Ytifnjdplbdpelaa
