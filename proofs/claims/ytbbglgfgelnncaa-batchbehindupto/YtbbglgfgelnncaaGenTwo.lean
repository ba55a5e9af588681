/- Bytes and numbers, each in memory of its own. Our own definitions; no statement of the seat is proved here. -/
import Derived.Test.YtbbglgfgelnncaaRecRef5
import Derived.Maps.AppendAt
namespace Go.Proofs.Ytbbglgfgelnncaa
open Go.RowKit

def iv (n : Nat) : Value := .int .i64 ((n : Nat) : Int)
/-- A row of numbers of our own. -/
structure IntsO (w : World) (v : Value) (ns : List Nat) (W : World) : Prop where
  own : W.ownsRow 0 3 1 v ns.length (ns.map iv)
  new : ∀ k, v.ownBlock = some k → w.heap.size ≤ k
theorem IntsO.start (w : World) : IntsO w (.slice none 0 0) [] w := ⟨World.ownsRow_nil _ _ _ _, fun k hk => (by cases hk)⟩
theorem IntsO.later {w W W' : World} {v : Value} {ns : List Nat} (h : IntsO w v ns W) (hk : ∀ k, v.ownBlock = some k → k < W.heap.size → W'.heap[k]? = W.heap[k]?) : IntsO w v ns W' := ⟨row_keeps h.own fun k e => hk k e (h.own.lt k e).2, h.new⟩
theorem infoInt0 : (Try.prog.info? 3).map (fun i => (i.zero, i.size, i.bytes)) = some (some (.int .i64 0), 1, 8) := by kernel_rfl

/-- Bytes and numbers, each in memory of its own. -/
structure Two (w : World) (v1 : Value) (bs : List UInt8) (v2 : Value) (ns : List Nat) (W : World) : Prop where
  o1 : Own w v1 bs W
  o2 : IntsO w v2 ns W
  ap : ∀ k, v1.ownBlock = some k → v2.ownBlock ≠ some k
theorem Two.start (w : World) : Two w (.slice none 0 0) [] (.slice none 0 0) [] w := ⟨Own.start w, IntsO.start w, fun k hk => (by cases hk)⟩
theorem Two.later {w W W' : World} {v1 v2 : Value} {bs : List UInt8} {ns : List Nat} (h : Two w v1 bs v2 ns W) (hb : Below W.heap.size W W') : Two w v1 bs v2 ns W' := ⟨h.o1.later hb, h.o2.later fun k _ hk => hb.block k hk, h.ap⟩
theorem Two.grown1 {w W W' : World} {v1 v1' v2 : Value} {bs cs : List UInt8} {ns : List Nat} (h : Two w v1 bs v2 ns W) (r1 : W'.ownsRow 0 5 1 v1' cs.length (cs.map bv)) (r2 : W.grownBy W' v1.ownBlock) (r3 : v1'.ownBlock = v1.ownBlock ∨ ∃ k, v1'.ownBlock = some k ∧ W.heap.size ≤ k) : Two w v1' cs v2 ns W' :=
  ⟨h.o1.grown r1 r2 r3, h.o2.later fun k e hk => r2.block k hk fun e' => h.ap k e'.symm e, fun k hk e => by
    rcases r3 with e1 | ⟨k', e1, h1⟩
    · exact h.ap k (by rw [← e1]; exact hk) e
    · rw [e1] at hk
      cases hk
      have := (h.o2.own.lt k e).2
      omega⟩
theorem Two.grown2 {w W W' : World} {v1 v2 v2' : Value} {bs : List UInt8} {ns ms : List Nat} (h : Two w v1 bs v2 ns W) (r1 : W'.ownsRow 0 3 1 v2' ms.length (ms.map iv)) (r2 : W.grownBy W' v2.ownBlock) (r3 : v2'.ownBlock = v2.ownBlock ∨ v2'.ownBlock = some W.heap.size) : Two w v1 bs v2' ms W' := by
  have hb : Below w.heap.size w W' := h.o1.bb.grown r2 h.o1.bb.size h.o2.new
  refine ⟨⟨own_keeps h.o1.own fun k hk => r2.block k (h.o1.own.lt k hk).2 fun e => h.ap k hk e.symm, h.o1.new, hb⟩, ⟨r1, fun k hk => ?_⟩, fun k hk e => ?_⟩
  · rcases r3 with e | e
    · exact h.o2.new k (by rw [← e]; exact hk)
    · rw [e] at hk; cases hk; exact h.o1.bb.size
  · rcases r3 with e1 | e1
    · exact h.ap k hk (by rw [← e1]; exact e)
    · rw [e1] at e
      cases e
      have := (h.o1.own.lt _ hk).2
      omega

/-- A number is appended to a row of ours. -/
theorem wpList_append_int {w W : World} {ops : Array Oper} {rest : List Oper} {op : Oper} {a : Act} {Q : Exit → Act → World → Prop}
    (hg : op.guard = none) (s x : Operand) (hop : op.op = Op.call { callee := Callee.builtin Builtin.append, args := #[s, x], argTypes := #[41, 41] })
    (v v1 : Value) (bs : List UInt8) (ns : List Nat) (m g cap : Nat) (hsv : a.eval s = v) (hT : Two w v1 bs v ns W) (hx : a.eval x = .slice (some ⟨g, 0, none⟩) 1 cap)
    (h0 : W.cell? ⟨g, 0, none⟩ = some (iv m)) (hl : ns.length ≤ 1048576)
    (hK : ∀ v' W', Two w v1 bs v' (ns ++ [m]) W' → wpList Try.prog ops Q rest (a.put op.dst v') W') :
    wpList Try.prog ops Q (op :: rest) a W := by
  obtain ⟨tj, htj, hy0, hy1, hy2⟩ := info_parts infoInt0
  refine wpList_append_own_at W hg s x 41 hop 0 3 tj (.int .i64 0) 1 8 Try.underlying41 htj hy0 hy1 hy2 rfl (by decide) v _ _ hsv hT.o2.own ⟨g, 0, none⟩ 1 cap [iv m] hx rfl (fun j u hj => by
    match j, hj with
    | 0, hj => cases hj; exact h0) (fun u hu => by simp at hu; subst hu; rfl) (by unfold maxLen; omega) (by omega) (Nat.zero_le _) ?_
  intro v' W' r1 r2 _ r3
  refine hK v' W' (hT.grown2 ?_ r2 r3)
  rw [List.length_append, List.map_append]
  exact r1

theorem IntsO.form {w W : World} {v : Value} {ns : List Nat} (h : IntsO w v ns W) : ∃ a c, v = .slice a ns.length c := by
  rcases h.own.2 with ⟨e, h0⟩ | ⟨g, cap, cur, e, _⟩
  · exact ⟨none, 0, by rw [e, h0]⟩
  · exact ⟨_, _, e⟩
/-- A number of a row of ours, read. -/
theorem IntsO.at {w W : World} {a : Option Addr} {n c : Nat} {ns : List Nat} (h : IntsO w (.slice a n c) ns W) (hl : ns.length = n) {i : Nat} (hi : i < n) : ∃ g, a = some ⟨g, 0, none⟩ ∧ W.cell? ⟨g, i, none⟩ = some (.int .i64 ((ns.getD i 0 : Nat) : Int)) := by
  have h0 := h.own
  rcases h0.2 with ⟨e, h1⟩ | ⟨g, cap, cur, e, h1⟩
  · omega
  · simp only [Value.slice.injEq] at e
    obtain ⟨rfl, _, rfl⟩ := e
    refine ⟨g, rfl, ?_⟩
    have hx : (ns.map iv)[i]? = some (iv (ns.getD i 0)) := by rw [List.getElem?_map, List.getElem?_eq_getElem (by omega), List.getD_eq_getElem?_getD, List.getElem?_eq_getElem (by omega)]; rfl
    have hc := h0.cells (g := g) rfl i _ hx
    simpa [Addr.add_mid, iv] using hc
end Go.Proofs.Ytbbglgfgelnncaa
