/- ValRow, ValStep, ValImplW, ValImplX, ValImplA, ValReads: our own definitions and contracts; no statement of the seat is proved here. -/
import Derived.Test.YtobgmbfoofkdeaaDoorBase01
import Derived.OwnWalkIn
import Derived.Deep.RegionLaw
import Derived.Test.YtobgmbfoofkdeaaDoorBase02
import Derived.Test.YtobgmbfoofkdeaaDoorBase00
namespace Go.Proofs.YtobgmbfoofkdeaaDoor
open Go.RowKit

theorem infoVal0 : (Tryd.prog.info? 24).map (fun i => (i.size, i.bytes, i.zero.map (·.cells.size))) = some (4, 56, some 4) := by kernel_rfl
theorem infoVal : ∃ i z, Tryd.prog.info? 24 = some i ∧ i.zero = some z ∧ i.size = 4 ∧ i.bytes = 56 ∧ z.cells.size = 4 := by
  have h := infoVal0
  cases hi : Tryd.prog.info? 24 with
  | none => rw [hi] at h; cases h
  | some i =>
    rw [hi] at h
    simp only [Option.map_some, Option.some.injEq, Prod.mk.injEq] at h
    obtain ⟨h1, h2, h3⟩ := h
    cases hz : i.zero with
    | none => rw [hz] at h3; cases h3
    | some z =>
      rw [hz] at h3
      exact ⟨i, z, rfl, hz, h1, h2, by simpa using h3⟩

/-- The i-th struct of cells. -/
def aggAt (xs : List Value) (i : Nat) : Value := .agg #[xs.getD (i * 4) undef, xs.getD (i * 4 + 1) undef, xs.getD (i * 4 + 2) undef, xs.getD (i * 4 + 3) undef]
/-- The slice r, in a block of ours from B0 on, holds the values; their lists lie in other blocks from B0 on. -/
structure ValsO (B0 : Nat) (W : World) (r : Value) (q : List VD) : Prop where
  row : ∃ xs, W.ownsRow 0 24 4 r q.length xs ∧ ∀ i (h : i < q.length), (q[i]'h).At (fun k => B0 ≤ k ∧ r.ownBlock ≠ some k) W (aggAt xs i)
  new : ∀ k, r.ownBlock = some k → B0 ≤ k
theorem ValsO.nil (B0 : Nat) (W : World) : ValsO B0 W (.slice none 0 0) [] := ⟨⟨[], World.ownsRow_nil W 0 _ 4, fun i h => absurd h (Nat.not_lt_zero i)⟩, fun k hk => by cases hk⟩
theorem ownsV_keeps {W W' : World} {e : TypeId} {s : Nat} {v : Value} {n : Nat} {xs : List Value} (h : W.ownsRow 0 e s v n xs) (hk : ∀ k, v.ownBlock = some k → W'.heap[k]? = W.heap[k]?) : W'.ownsRow 0 e s v n xs := by
  refine ⟨h.1, ?_⟩
  rcases h.2 with hn | ⟨g, cap, cur, hv, hb0, hg, rest⟩
  · exact .inl hn
  · exact .inr ⟨g, cap, cur, hv, hb0, (hk g (by rw [hv]; rfl)).trans hg, rest⟩
theorem ValsO.later {B0 : Nat} {W W' : World} {r : Value} {q : List VD} (h : ValsO B0 W r q) (hb : Below W.heap.size W W') : ValsO B0 W' r q := by
  obtain ⟨⟨xs, h1, h2⟩, h3⟩ := h
  exact ⟨⟨xs, ownsV_keeps h1 fun k hk => hb.block k (h1.lt k hk).2, fun i hi => (h2 i hi).later hb⟩, h3⟩
/-- A store elsewhere. -/
theorem ValsO.set {B0 : Nat} {W : World} {r : Value} {q : List VD} (h : ValsO B0 W r q) {p : Addr} (hp : p.block < B0) (v : Value) : ValsO B0 (W.setCell p v) r q := by
  obtain ⟨⟨xs, h1, h2⟩, h3⟩ := h
  refine ⟨⟨xs, ownsV_keeps h1 fun k hk => Below.heap_setCell _ _ _ _ (by have := h3 k hk; omega), fun i hi => (h2 i hi).kept (fun k hk _ => Below.heap_setCell _ _ _ _ (by have := hk.1; omega)) (fun _ h _ => h)⟩, h3⟩
/-- What such a row reads as. -/
theorem ValsO.at {B0 : Nat} {W : World} {r : Value} {q : List VD} (h : ValsO B0 W r q) {k : Nat} {n : Int} {s : List UInt8} (hk : k < 256) (hn : InR n) (hs : s.length ≤ maxLen) : (VD.mk k n s q).At (fun b => B0 ≤ b) W (.agg #[.int .u8 ((k : Nat) : Int), .int .i64 n, .string ⟨s.toArray⟩, r]) := by
  obtain ⟨⟨xs, h1, h2⟩, h3⟩ := h
  rw [VD.at_iff]
  rcases h1.2 with ⟨e, e0⟩ | ⟨g, cap, cur, e, _, hg, hc, hm, hcs, htk⟩
  · subst e
    have : q = [] := List.eq_nil_of_length_eq_zero e0
    subst this
    exact ⟨none, 0, rfl, hk, hn, hs, Nat.le_refl _, Nat.zero_le _, fun j hj => absurd hj (Nat.not_lt_zero j)⟩
  · subst e
    have hxl : xs.length = q.length * 4 := h1.1
    refine ⟨some ⟨g, 0, none⟩, cap, rfl, hk, hn, hs, hc, hm, fun j hj => ?_⟩
    have hj : j < q.length := hj
    have hcell : ∀ p, p < q.length * 4 → W.cell? ⟨g, 0 + p, none⟩ = some (xs.getD p undef) := fun p hp => by
      have h5 := h1.cells (g := g) rfl p (xs.getD p undef) (by rw [List.getD_eq_getElem?_getD, List.getElem?_eq_getElem (by omega)]; rfl)
      rw [Addr.add_mid] at h5
      exact h5
    refine ⟨g, 0, _, _, _, _, rfl, h3 g rfl, hcell (j * 4) (by omega), ?_, ?_, ?_, (h2 j hj).wider fun b hb => hb.1⟩
    · have := hcell (j * 4 + 1) (by omega); rwa [show 0 + (j * 4 + 1) = 0 + j * 4 + 1 by omega] at this
    · have := hcell (j * 4 + 2) (by omega); rwa [show 0 + (j * 4 + 2) = 0 + j * 4 + 2 by omega] at this
    · have := hcell (j * 4 + 3) (by omega); rwa [show 0 + (j * 4 + 3) = 0 + j * 4 + 3 by omega] at this
theorem ValsO.form {B0 : Nat} {W : World} {r : Value} {q : List VD} (h : ValsO B0 W r q) : ∃ a c, r = .slice a q.length c ∧ q.length ≤ c := by
  obtain ⟨⟨xs, h1, h2⟩, h3⟩ := h
  rcases h1.2 with ⟨e, e0⟩ | ⟨g, cap, cur, e, _, hg, hc, _⟩
  · exact ⟨none, 0, by rw [e, e0], by omega⟩
  · exact ⟨_, cap, e, hc⟩

/-- append of one value: the row goes on in its block, or in a new one. -/
theorem ValsO.append {B0 : Nat} {W : World} {r : Value} {q : List VD} (h : ValsO B0 W r q) (hB : B0 ≤ W.heap.size) {x : VD} {e0 e1 e2 e3 : Value} (hx : x.At (fun k => B0 ≤ k ∧ r.ownBlock ≠ some k) W (.agg #[e0, e1, e2, e3])) {ad : Addr} {c : Nat}
    (d0 : W.cell? (ad.add 0) = some e0) (d1 : W.cell? (ad.add 1) = some e1) (d2 : W.cell? (ad.add 2) = some e2) (d3 : W.cell? (ad.add 3) = some e3) (hl : q.length ≤ 1048576) (ty : TypeId) :
    ∃ r' W', (Builtin.append_ #[22, 22] ty #[r, .slice (some ad) 1 c]).run Tryd.prog W = .ok r' W' ∧ ValsO B0 W' r' (q ++ [x]) ∧ W.grownBy W' r.ownBlock := by
  obtain ⟨i, z, hi, hz, hs, hb, hzs⟩ := infoVal
  obtain ⟨⟨xs, h1, h2⟩, h3⟩ := h
  have hxl : xs.length = q.length * 4 := h1.1
  have hone : ∀ u ∈ [e0, e1, e2, e3], u.oneCell' = true := by
    rw [VD.at_iff] at hx
    obtain ⟨a, c', h, _⟩ := hx
    simp only [Value.agg.injEq] at h
    have h := congrArg Array.toList h
    simp only [List.cons.injEq, and_true] at h
    obtain ⟨rfl, rfl, rfl, rfl⟩ := h
    intro u hu
    simp only [List.mem_cons, List.mem_nil_iff, or_false] at hu
    rcases hu with rfl | rfl | rfl | rfl <;> rfl
  have hcells : ∀ j u, [e0, e1, e2, e3][j]? = some u → W.cell? (ad.add j) = some u := fun j u hj => by
    match j, hj with
    | 0, hj => cases hj; exact d0
    | 1, hj => cases hj; exact d1
    | 2, hj => cases hj; exact d2
    | 3, hj => cases hj; exact d3
  have fin : ∀ r' W', W'.ownsRow 0 24 4 r' (q.length + 1) (xs ++ [e0, e1, e2, e3]) → W.grownBy W' r.ownBlock → (r'.ownBlock = r.ownBlock ∨ ∃ k, r'.ownBlock = some k ∧ W.heap.size ≤ k) → ValsO B0 W' r' (q ++ [x]) := fun r' W' g1 g2 g3 => by
    have kept : ∀ {y : VD} {u : Value}, y.At (fun k => B0 ≤ k ∧ r.ownBlock ≠ some k) W u → y.At (fun k => B0 ≤ k ∧ r'.ownBlock ≠ some k) W' u := fun hy =>
      hy.kept (fun k hk hlt => g2.block k hlt (fun e => hk.2 e.symm)) (fun k hk hlt => ⟨hk.1, fun e => by
        rcases g3 with e2 | ⟨k', e2, hle⟩
        · rw [e2] at e; exact hk.2 e
        · rw [e2] at e; cases e; omega⟩)
    refine ⟨⟨xs ++ [e0, e1, e2, e3], by rw [List.length_append, List.length_singleton]; exact g1, fun i hi => ?_⟩, fun k hk => ?_⟩
    · rw [List.length_append, List.length_singleton] at hi
      by_cases hlt : i < q.length
      · rw [List.getElem_append_left hlt]
        have ge : ∀ p, p < q.length * 4 → (xs ++ [e0, e1, e2, e3]).getD p undef = xs.getD p undef := fun p hp => by
          rw [List.getD_eq_getElem?_getD, List.getD_eq_getElem?_getD, List.getElem?_append_left (by omega)]
        have e : aggAt (xs ++ [e0, e1, e2, e3]) i = aggAt xs i := by unfold aggAt; rw [ge _ (by omega), ge _ (by omega), ge _ (by omega), ge _ (by omega)]
        rw [e]
        exact kept (h2 i hlt)
      · have hi' : i = q.length := by omega
        subst hi'
        rw [List.getElem_append_right (Nat.le_refl _)]
        have ge : ∀ p, p < 4 → (xs ++ [e0, e1, e2, e3]).getD (q.length * 4 + p) undef = [e0, e1, e2, e3].getD p undef := fun p hp => by
          rw [List.getD_eq_getElem?_getD, List.getD_eq_getElem?_getD, List.getElem?_append_right (by omega), hxl, Nat.add_sub_cancel_left]
        have e : aggAt (xs ++ [e0, e1, e2, e3]) q.length = .agg #[e0, e1, e2, e3] := by
          unfold aggAt
          have z0 := ge 0 (by omega)
          rw [Nat.add_zero] at z0
          rw [z0, ge 1 (by omega), ge 2 (by omega), ge 3 (by omega)]
          rfl
        rw [e]
        simpa using kept hx
    · rcases g3 with e2 | ⟨k', e2, hle⟩
      · rw [e2] at hk; exact h3 k hk
      · rw [e2] at hk; cases hk; omega
  rcases h1.2 with ⟨rfl, hn⟩ | ⟨g, cap, cur, rfl, _, hg, hnc, hcm, hcs, htk⟩
  · have hxn : xs = [] := List.eq_nil_of_length_eq_zero (by omega)
    subst hxn
    obtain ⟨r', W', hrun, r1, r2, _⟩ := run_append_own (P := Tryd.prog) W W.heap.size 22 ty 24 i z 4 56 Tryd.underlying22 hi hz hs hb hzs (by decide) (.slice none 0 0) 0 [] (World.ownsRow_nil W _ _ 4) ad 1 c [e0, e1, e2, e3] rfl hcells hone (by unfold maxLen; omega) (by omega) (Nat.le_refl _)
    refine ⟨r', W', hrun, fin r' W' ?_ r2 ?_, r2⟩
    · rw [hn]
      refine ⟨r1.1, ?_⟩
      rcases r1.2 with ⟨a, b⟩ | ⟨g, cap, cur, a, b, rest⟩
      · exact .inl ⟨a, b⟩
      · exact .inr ⟨g, cap, cur, a, Nat.zero_le _, rest⟩
    · rcases r1.2 with ⟨a, b⟩ | ⟨g, cap, cur, a, b, rest⟩
      · omega
      · exact .inr ⟨g, by rw [a]; rfl, b⟩
  · by_cases hroom : q.length + 1 ≤ cap
    · obtain ⟨W', hrun, r1, r2⟩ := run_append_fits (P := Tryd.prog) W 0 22 ty 24 i 4 Tryd.underlying22 hi hs g q.length cap xs h1 ad 1 c [e0, e1, e2, e3] rfl hcells hone hroom
      exact ⟨_, W', hrun, fin _ W' r1 r2 (.inl rfl), r2⟩
    · have hold : ∀ j u, xs[j]? = some u → W.cell? ((⟨g, 0, none⟩ : Addr).add j) = some u := h1.cells (g := g) rfl
      obtain ⟨r', W', hrun, r1, r2⟩ := run_append_arg_grows (P := Tryd.prog) W 22 ty 24 i z 4 56 Tryd.underlying22 hi hz hs hb hzs (by decide) ⟨g, 0, none⟩ q.length cap xs hxl hold ad 1 c [e0, e1, e2, e3] rfl hcells (by omega) (by unfold maxLen; omega) (by omega)
      have r3 : W.grownBy W' (some g) := ⟨r2.os, r2.tape, r2.output, r2.size, fun k hk _ => r2.block k hk (by simp)⟩
      refine ⟨r', W', hrun, fin r' W' ?_ r3 ?_, r3⟩
      · refine ⟨r1.1, ?_⟩
        rcases r1.2 with ⟨a, b⟩ | ⟨g', cap', cur', a, b, rest⟩
        · exact .inl ⟨a, b⟩
        · exact .inr ⟨g', cap', cur', a, Nat.zero_le _, rest⟩
      · rcases r1.2 with ⟨a, b⟩ | ⟨g', cap', cur', a, b, rest⟩
        · omega
        · exact .inr ⟨g', by rw [a]; rfl, b⟩
end Go.Proofs.YtobgmbfoofkdeaaDoor

namespace Go.Proofs.YtobgmbfoofkdeaaDoor
open Go.RowKit

/-- A call of a Go function, by its contract. -/
theorem step_calls {P : Program} {ops : Array Oper} {op : Oper} {a : Act} {w : World} {K : Act → World → Prop} {Q : Exit → Act → World → Prop} {Ep : Prop}
    {f : FuncId} {fn : Func} (hf : P.funcs[f]? = some fn) (hname : (fn.name == "runtime.NumGoroutine") = false) (hb : fn.body.isNone = false) (hg : op.guard = none) (xs : Array Operand) (ts : Array TypeId) (hop : op.op = Op.call { callee := Callee.value (Operand.func f), args := xs, argTypes := ts }) (args : Array Value) (hargs : xs.map a.eval = args)
    {R : Ending → World → Prop} (hC : Calls P f args w R) (hR : ∀ e w', R e w' → ∃ v, e = .returned v ∧ K (a.put op.dst v) w') :
    if Region.wanted op (yielded ops a.tmps) = true then Oper.wp P op a w K Q else Ep := by
  have hw : Region.wanted op (yielded ops a.tmps) = true := by simp [Region.wanted, hg]
  rw [if_pos hw]
  have hrun : (execOp a.eval op).run P w = .ok (.enter f args) w := by
    have h1 : ¬ fn.name = "runtime.NumGoroutine" := by simpa using hname
    have h2 : ¬ fn.body = none := fun e => by rw [e] at hb; cases hb
    simp [go_sem, execOp, hop, resolve, invoke, hargs, Result.andThen, Act.eval, Deferred.ofValue, callFunc, hf, h1, h2]
  unfold Oper.wp
  rw [hrun, Oper.upon_enter]
  refine hC.mono fun e w' h => ?_
  obtain ⟨v, rfl, hk⟩ := hR e w' h
  exact hk

/-- The same under a guard that holds. -/
theorem step_callsW {P : Program} {ops : Array Oper} {op : Oper} {a : Act} {w : World} {K : Act → World → Prop} {Q : Exit → Act → World → Prop} {Ep : Prop}
    {f : FuncId} {fn : Func} (hf : P.funcs[f]? = some fn) (hname : (fn.name == "runtime.NumGoroutine") = false) (hb : fn.body.isNone = false) (hw : Region.wanted op (yielded ops a.tmps) = true) (xs : Array Operand) (ts : Array TypeId) (hop : op.op = Op.call { callee := Callee.value (Operand.func f), args := xs, argTypes := ts }) (args : Array Value) (hargs : xs.map a.eval = args)
    {R : Ending → World → Prop} (hC : Calls P f args w R) (hR : ∀ e w', R e w' → ∃ v, e = .returned v ∧ K (a.put op.dst v) w') :
    if Region.wanted op (yielded ops a.tmps) = true then Oper.wp P op a w K Q else Ep := by
  rw [if_pos hw]
  have hrun : (execOp a.eval op).run P w = .ok (.enter f args) w := by
    have h1 : ¬ fn.name = "runtime.NumGoroutine" := by simpa using hname
    have h2 : ¬ fn.body = none := fun e => by rw [e] at hb; cases hb
    simp [go_sem, execOp, hop, resolve, invoke, hargs, Result.andThen, Act.eval, Deferred.ofValue, callFunc, hf, h1, h2]
  unfold Oper.wp
  rw [hrun, Oper.upon_enter]
  refine hC.mono fun e w' h => ?_
  obtain ⟨v, rfl, hk⟩ := hR e w' h
  exact hk

/-- append, by its run. -/
theorem step_append_runV {P : Program} {ops : Array Oper} {op : Oper} {a : Act} {w : World} {K : Act → World → Prop} {Q : Exit → Act → World → Prop} {Ep : Prop}
    (hg : op.guard = none) (s x : Operand) (t : TypeId) (hop : op.op = Op.call { callee := Callee.builtin Builtin.append, args := #[s, x], argTypes := #[t, t] }) (v u : Value) (hsv : a.eval s = v) (hxu : a.eval x = u)
    (v' : Value) (w' : World) (hrun : (Builtin.append_ #[t, t] op.type #[v, u]).run P w = .ok v' w') (hK : K (a.put op.dst v') w') :
    if Region.wanted op (yielded ops a.tmps) = true then Oper.wp P op a w K Q else Ep := by
  have hw : Region.wanted op (yielded ops a.tmps) = true := by simp [Region.wanted, hg]
  rw [if_pos hw]
  unfold Oper.wp
  simp [execOp, hop, resolve, invoke, builtin, hsv, hxu, hrun, Result.andThen]
  exact hK
end Go.Proofs.YtobgmbfoofkdeaaDoor

namespace Go.Proofs.YtobgmbfoofkdeaaDoor
open Go.RowKit

/-- Shown as it is. -/
def plainB (y : Nat) : Bool := decide (33 ≤ y) && decide (y ≤ 126) && decide (y ≠ 34) && decide (y ≠ 37)
theorem isPlain_any (y : Nat) (w : World) : Calls Tryd.prog 68 #[.int .u8 ((y : Nat) : Int)] w fun e w' => e = .returned (.bool (plainB y)) ∧ w' = w := by
  by_cases q1 : 33 ≤ y
  case neg =>
    have HD : Hid (plainB y = false) := by show _ = _; unfold plainB; rw [decide_eq_false q1]; rfl
    have p1 : ¬ ((y : Nat) : Int) ≥ 33 := by omega
    clear q1
    go_enter Tryd.func68, Tryd.ntmps68
    go_wp2
    go_ret
    exact ⟨ret_bool (unhide HD).symm, rfl⟩
  have p1 : ((y : Nat) : Int) ≥ 33 := by omega
  have Q1 := hide q1
  by_cases q2 : y ≤ 126
  case neg =>
    have HD : Hid (plainB y = false) := by show _ = _; unfold plainB; rw [decide_eq_false q2]; simp
    have p2 : ¬ ((y : Nat) : Int) ≤ 126 := by omega
    clear q2 q1
    go_enter Tryd.func68, Tryd.ntmps68
    go_wp2
    go_ret
    exact ⟨ret_bool (unhide HD).symm, rfl⟩
  have p2 : ((y : Nat) : Int) ≤ 126 := by omega
  have Q2 := hide q2
  by_cases q3 : y = 34
  case pos =>
    have HD : Hid (plainB y = false) := by show _ = _; unfold plainB; rw [q3]; rfl
    have p3 : (((y : Nat) : Int) == 34) = true := by rw [beq_iff_eq]; omega
    have p3' : (((y : Nat) : Int) != 34) = false := by rw [bne, p3]; rfl
    clear q3 q2 q1
    go_enter Tryd.func68, Tryd.ntmps68
    go_wp2
    go_ret
    exact ⟨ret_bool (unhide HD).symm, rfl⟩
  have p3 : (((y : Nat) : Int) == 34) = false := by rw [beq_eq_false_iff_ne]; omega
  have p3' : (((y : Nat) : Int) != 34) = true := by rw [bne, p3]; rfl
  have Q3 := hide q3
  by_cases q4 : y = 37
  case pos =>
    have HD : Hid (plainB y = false) := by show _ = _; unfold plainB; rw [q4]; rfl
    have p4 : (((y : Nat) : Int) == 37) = true := by rw [beq_iff_eq]; omega
    have p4' : (((y : Nat) : Int) != 37) = false := by rw [bne, p4]; rfl
    clear q4 q3 q2 q1
    go_enter Tryd.func68, Tryd.ntmps68
    go_wp2
    go_ret
    exact ⟨ret_bool (unhide HD).symm, rfl⟩
  have p4 : (((y : Nat) : Int) == 37) = false := by rw [beq_eq_false_iff_ne]; omega
  have p4' : (((y : Nat) : Int) != 37) = true := by rw [bne, p4]; rfl
  have HD : Hid (plainB y = true) := by show _ = _; unfold plainB; rw [decide_eq_true (unhide Q1), decide_eq_true (unhide Q2), decide_eq_true (unhide Q3), decide_eq_true q4]; rfl
  clear q4 q3 q2 q1
  go_enter Tryd.func68, Tryd.ntmps68
  go_wp2
  go_ret
  exact ⟨ret_bool (unhide HD).symm, rfl⟩

theorem escB_plain {y : UInt8} (h : plainB y.toNat = true) : escB y = [y] := by
  unfold plainB at h
  simp only [Bool.and_eq_true, decide_eq_true_eq] at h
  unfold escB
  rw [if_neg (by omega)]
theorem escB_not {y : UInt8} (h : plainB y.toNat = false) : escB y = [37, dgt (y.toNat / 16), dgt (y.toNat % 16)] := by
  unfold escB
  rw [if_pos]
  refine Classical.byContradiction fun hn => ?_
  have : plainB y.toNat = true := by unfold plainB; simp only [Bool.and_eq_true, decide_eq_true_eq]; omega
  rw [this] at h; cases h
/-- Three bytes in a block of their own. -/
theorem bytes_three (w : World) (x y z : UInt8) : Bytes (w.alloc (.cells #[bv x, bv y, bv z] 5)) (.slice (some ⟨w.heap.size, 0, none⟩) 3 3) [x, y, z] := by
  refine .inr ⟨⟨w.heap.size, 0, none⟩, 3, rfl, Nat.le_refl _, by unfold maxLen; omega, fun j u hu => ?_⟩
  rw [Addr.add_mid, Nat.zero_add, cell_of_row _ _ _ _ _ _ (heap_alloc_new w _)]
  have hu' : [bv x, bv y, bv z][j]? = some u := hu
  show [bv x, bv y, bv z].toArray[j]? = some u
  simpa using hu'
theorem digit_at (x : Nat) (h : x < 16) (W : World) : (Instr.index 9 (.string ⟨#[48, 49, 50, 51, 52, 53, 54, 55, 56, 57, 65, 66, 67, 68, 69, 70]⟩) (.int .u8 ((x : Nat) : Int))).run Tryd.prog W = .ok (bv (dgt x)) W := by
  rw [run_index_string W 9 _ .u8 _ Tryd.underlying9, dif_pos ⟨by omega, by simp [ByteArray.size]; omega⟩]
  congr 1
  have hd : ∀ x : Fin 16, ((⟨#[48, 49, 50, 51, 52, 53, 54, 55, 56, 57, 65, 66, 67, 68, 69, 70]⟩ : ByteArray)[x.val]'(by simp [ByteArray.size])) = dgt x.val := by decide +kernel
  have h2 := hd ⟨x, h⟩
  simp only [Int.toNat_natCast]
  rw [h2]
  rfl
end Go.Proofs.YtobgmbfoofkdeaaDoor

namespace Go.Proofs.YtobgmbfoofkdeaaDoor
open Go.RowKit

set_option maxRecDepth 100000 in
set_option maxHeartbeats 1000000 in
theorem shownText_any (s pre : List UInt8) (hs : s.length ≤ 100) (r : Value) (w0 w : World) (hO : Own w0 r pre w) (hl : pre.length ≤ 1000000000) : Calls Tryd.prog 56 #[r, .string ⟨s.toArray⟩] w fun e w' => ∃ r', e = .returned r' ∧ Own w0 r' (pre ++ (34 :: (s.flatMap escB ++ [34]))) w' := by
  obtain ⟨ti, hti, hz0, hz1, hz2⟩ := infoByte
  have hat := str_at s
  have hsz : (⟨s.toArray⟩ : ByteArray).size = s.length := by simp [ByteArray.size]
  obtain ⟨n, hn⟩ : ∃ n, n = s.length := ⟨_, rfl⟩
  rw [← hn] at hsz hs
  have HN := hide hn
  have HAT := hide hat
  have HO := hide hO
  have HL := hide hl
  have HSD : Hid (pre ++ (34 :: (s.flatMap escB ++ [34])) = ((pre ++ [34]) ++ s.flatMap escB) ++ [34]) := by show _ = _; simp
  obtain ⟨z, hz⟩ : ∃ z : ByteArray, z = ⟨s.toArray⟩ := ⟨_, rfl⟩
  rw [← hz] at hsz ⊢
  have HZ := hide hz
  have HES : Hid (∀ j, ((s.take j).flatMap escB).length ≤ 300) := fun j => by
    have := esc_len (s.take j)
    rw [List.length_take] at this
    have := unhide HN
    omega
  clear hz hat hn hO hl
  go_enter Tryd.func56, Tryd.ntmps56
  go_wp2_with (at_builtin; refine wpList_append_bytes _ rfl _ _ 25 rfl 5 ti (.int .u8 0) Tryd.underlying25 hti hz0 hz1 hz2 rfl _ pre rfl ((unhide HO).alloc _).own _ [34] rfl (bytes_one w 34) (by have := unhide HL; simp; omega) ?_)
  rintro v1 w1 r1 r2 r3
  have HO1 := hide (((unhide HO).alloc _).grown (cs := pre ++ [34]) (by simpa using r1) r2 (by simpa using r3))
  clear r1 r2 r3
  have HPL : Hid ((pre ++ [34]).length ≤ 1000000001) := by show _ ≤ _; have := unhide HL; simp; omega
  generalize pre ++ [34] = pf at *
  go_wp2
  go_loopw [0, 11] (fun r k W => ∃ (j : Nat) (ra : Value), j ≤ n ∧ k = .int .i64 ((j : Nat) : Int) ∧ ra = r ∧ Own w0 ra (pf ++ (s.take j).flatMap escB) W) (fun _ k _ => n - (intOf k).toNat)
  case atStart => exact ⟨0, _, by omega, rfl, rfl, by simpa using unhide HO1⟩
  case round =>
    obtain ⟨j, ra, hj, rfl, rfl, hO⟩ := hrel
    have HO2 := hide hO
    clear hO HO HO1
    by_cases hlt : j < n
    · have hji : ((j : Nat) : Int) < ((n : Nat) : Int) := by omega
      have hjz : j < z.size := by omega
      have hjl : j < s.length := by have := unhide HN; omega
      obtain ⟨y, hy⟩ : ∃ y, y = z[j]'hjz := ⟨_, rfl⟩
      have hys : y = s[j]'hjl := by
        rw [hy]
        have := unhide HAT j hjl (by simp [ByteArray.size]; exact hjl)
        have hz := unhide HZ
        subst hz
        exact this
      have HTS : Hid ((s.take (j + 1)).flatMap escB = (s.take j).flatMap escB ++ escB y) := by
        show _ = _
        rw [List.take_succ_eq_append_getElem hjl, List.flatMap_append, hys]
        simp
      have HLN : Hid ((pf ++ (s.take j).flatMap escB).length ≤ 1000000400) := by
        show _ ≤ _
        have := unhide HES j
        have := unhide HPL
        rw [List.length_append]
        omega
      have hix : ∀ W, (Instr.index 9 (.string z) (.int .i64 ((j : Nat) : Int))).run Tryd.prog W = .ok (.int .u8 ((y.toNat : Nat) : Int)) W := fun W => by
        rw [run_index_string W 9 z .i64 _ Tryd.underlying9, dif_pos ⟨by omega, by omega⟩, hy]
        rfl
      have hyb := y.toNat_lt
      have HTA : Hid (pf ++ ((s.take j).flatMap escB ++ escB y) = (pf ++ (s.take j).flatMap escB) ++ escB y) := (List.append_assoc _ _ _).symm
      generalize hS : (pf ++ (s.take j).flatMap escB) = S at *
      clear hS hys hy hjz
      go_wp2_with fail
      refine (isPlain_any y.toNat _).mono ?_
      rintro e w' ⟨rfl, hw⟩
      rw [hw]
      clear hw w'
      rcases hp : plainB y.toNat with _ | _
      · obtain ⟨Q, hQ⟩ : ∃ Q : Nat, Q = y.toNat / 16 := ⟨_, rfl⟩
        obtain ⟨R, hR⟩ : ∃ R : Nat, R = y.toNat % 16 := ⟨_, rfl⟩
        have HEB := hide (escB_not hp)
        rw [← hQ, ← hR] at HEB
        have hd1 : ∀ W, (Instr.index 9 (.string ⟨#[48, 49, 50, 51, 52, 53, 54, 55, 56, 57, 65, 66, 67, 68, 69, 70]⟩) (.int .u8 ((Q : Nat) : Int))).run Tryd.prog W = .ok (.int .u8 (((dgt Q).toNat : Nat) : Int)) W := digit_at Q (by omega)
        have hd2 : ∀ W, (Instr.index 9 (.string ⟨#[48, 49, 50, 51, 52, 53, 54, 55, 56, 57, 65, 66, 67, 68, 69, 70]⟩) (.int .u8 ((R : Nat) : Int))).run Tryd.prog W = .ok (.int .u8 (((dgt R).toNat : Nat) : Int)) W := digit_at R (by omega)
        obtain ⟨Y, hY⟩ : ∃ Y : Nat, Y = y.toNat := ⟨_, rfl⟩
        rw [← hY] at hix hQ hR hyb
        have e1 : ((Y : Nat) : Int) / 16 = ((Q : Nat) : Int) := by omega
        have e2 : ((Y : Nat) : Int) % 16 = ((R : Nat) : Int) := by omega
        have e1t : ((Y : Nat) : Int).tdiv 16 = ((Q : Nat) : Int) := by rw [Int.tdiv_eq_ediv_of_nonneg (by omega)]; omega
        have e2t : ((Y : Nat) : Int).tmod 16 = ((R : Nat) : Int) := by rw [Int.tmod_eq_emod_of_nonneg (by omega)]; omega
        have e3 : IntKind.u8.wrap ((Q : Nat) : Int) = ((Q : Nat) : Int) := by simp only [IntKind.wrap_u8]; omega
        have e4 : IntKind.u8.wrap ((R : Nat) : Int) = ((R : Nat) : Int) := by simp only [IntKind.wrap_u8]; omega
        clear hQ hR hY
        have HOD : Hid (Own w0 ra S wr.drew) := (unhide HO2).later ((Below.refl _ _).drew)
        have HB3 : Hid (Bytes (wr.drew.alloc (.cells #[.int .u8 37, .int .u8 (((dgt Q).toNat : Nat) : Int), .int .u8 (((dgt R).toNat : Nat) : Int)] 5)) (.slice (some ⟨wr.drew.heap.size, 0, none⟩) 3 3) [37, dgt Q, dgt R]) := bytes_three wr.drew 37 (dgt Q) (dgt R)
        generalize dgt Q = bq at *
        generalize dgt R = br at *
        clear hp hyb
        go_upto_region 7 with fail
        go_region_law (refine step_append_bytes (P := Tryd.prog) rfl (.tmp 24) (.tmp 35) 25 rfl 5 ti (.int .u8 0) Tryd.underlying25 hti hz0 hz1 hz2 rfl ra S rfl ((unhide HOD).alloc _).own (.slice (some ⟨wr.heap.size, 0, none⟩) 3 3) [37, bq, br] rfl (unhide HB3) (by have := unhide HLN; simp; omega) ?_; rintro v6 w6 r1 r2 r3; have HO6 := hide (((unhide HOD).alloc _).grown (cs := S ++ [37, bq, br]) (by simpa using r1) r2 (by simpa using r3)); clear r1 r2 r3)
        all_goals (
          go_wp2
          exact ⟨⟨j + 1, _, by omega, by go_num, rfl, by rw [unhide HTS, unhide HTA, unhide HEB]; exact unhide HO6⟩, by simp [intOf]; omega⟩)
      · have HEB := hide (escB_plain hp)
        clear hp
        go_wp2_with (at_builtin; refine wpList_append_bytes _ rfl _ _ 25 rfl 5 ti (.int .u8 0) Tryd.underlying25 hti hz0 hz1 hz2 rfl _ S rfl ((unhide HO2).alloc _).own _ [y] rfl (bytes_one wr y) (by have := unhide HLN; simp; omega) ?_)
        rintro v6 w6 r1 r2 r3
        have HO6 := hide (((unhide HO2).alloc _).grown (cs := S ++ [y]) (by simpa using r1) r2 (by simpa using r3))
        clear r1 r2 r3
        go_wp2
        exact ⟨⟨j + 1, _, by omega, by go_num, rfl, by rw [unhide HTS, unhide HTA, unhide HEB]; exact unhide HO6⟩, by simp [intOf]; omega⟩
    · have e : j = n := by omega
      have hji : ¬ ((j : Nat) : Int) < ((n : Nat) : Int) := by omega
      have HTK : Hid (s.take j = s) := List.take_of_length_le (by have := unhide HN; omega)
      rw [unhide HTK] at HO2
      have HFL : Hid ((pf ++ s.flatMap escB).length ≤ 1000000400) := by
        show _ ≤ _
        have := unhide HES j
        rw [unhide HTK] at this
        have := unhide HPL
        rw [List.length_append]
        omega
      clear e
      generalize pf ++ s.flatMap escB = S at *
      go_wp2_with (at_builtin; refine wpList_append_bytes _ rfl _ _ 25 rfl 5 ti (.int .u8 0) Tryd.underlying25 hti hz0 hz1 hz2 rfl _ S rfl ((unhide HO2).alloc _).own _ [34] rfl (bytes_one wr 34) (by have := unhide HFL; simp; omega) ?_)
      rintro v6 w6 r1 r2 r3
      have HO6 := hide (((unhide HO2).alloc _).grown (cs := S ++ [34]) (by simpa using r1) r2 (by simpa using r3))
      clear r1 r2 r3
      go_wp2
      go_ret
      exact ⟨_, rfl, by rw [unhide HSD]; exact unhide HO6⟩
end Go.Proofs.YtobgmbfoofkdeaaDoor

namespace Go.Proofs.YtobgmbfoofkdeaaDoor
open Go.RowKit

theorem mayBe_any (d c : Nat) (w : World) : Calls Tryd.prog 49 #[.int .i64 ((d : Nat) : Int), .int .i64 ((c : Nat) : Int)] w fun e w' => e = .returned (.bool (decide (d ≤ 6) && decide (c ≤ 200))) ∧ w' = w := by
  by_cases hd : d ≤ 6
  · have hdi : ((d : Nat) : Int) ≤ 6 := by omega
    have HD := hide hd
    clear hd
    by_cases hc : c ≤ 200
    · have hci : ((c : Nat) : Int) ≤ 200 := by omega
      have HC := hide hc
      clear hc
      go_enter Tryd.func49, Tryd.ntmps49
      go_wp2
      go_ret
      exact ⟨ret_bool (by rw [decide_eq_true (unhide HD), decide_eq_true (unhide HC)]; rfl), rfl⟩
    · have hci : ¬ ((c : Nat) : Int) ≤ 200 := by omega
      have HC := hide hc
      clear hc
      go_enter Tryd.func49, Tryd.ntmps49
      go_wp2
      go_ret
      exact ⟨ret_bool (by rw [decide_eq_false (unhide HC)]; simp), rfl⟩
  · have hdi : ¬ ((d : Nat) : Int) ≤ 6 := by omega
    have HD := hide hd
    clear hd
    go_enter Tryd.func49, Tryd.ntmps49
    go_wp2
    go_ret
    exact ⟨ret_bool (by rw [decide_eq_false (unhide HD)]; simp), rfl⟩

/-- A value's cells in a row, written out. -/
theorem VD.Elem.out {B : Nat → Prop} {W : World} {x : VD} {a : Option Addr} {i : Nat} (h : VD.Elem B W x a i) : ∃ (b o K xl ec : Nat) (N : Int) (z : ByteArray) (ea : Option Addr), a = some ⟨b, o, none⟩ ∧ B b ∧ W.cell? ⟨b, o + i * 4, none⟩ = some (.int .u8 ((K : Nat) : Int)) ∧ W.cell? ⟨b, o + i * 4 + 1, none⟩ = some (.int .i64 N) ∧ W.cell? ⟨b, o + i * 4 + 2, none⟩ = some (.string z) ∧ W.cell? ⟨b, o + i * 4 + 3, none⟩ = some (.slice ea xl ec) ∧ x.At B W (.agg #[.int .u8 ((K : Nat) : Int), .int .i64 N, .string z, .slice ea xl ec]) := by
  obtain ⟨b, o, e0, e1, e2, e3, ha, hb, c0, c1, c2, c3, he⟩ := h
  have h0 := he
  rw [VD.at_iff] at h0
  obtain ⟨ea, ec, hu, _⟩ := h0
  simp only [Value.agg.injEq] at hu
  have hu := congrArg Array.toList hu
  simp only [List.cons.injEq, and_true] at hu
  obtain ⟨rfl, rfl, rfl, rfl⟩ := hu
  exact ⟨b, o, x.k, x.l.length, ec, x.n, _, ea, ha, hb, c0, c1, c2, c3, he⟩
/-- The elements of a value that is read so. -/
theorem VD.At.elems {B : Nat → Prop} {W : World} {v : VD} {u0 u1 u2 : Value} {a : Option Addr} {m c : Nat} (h : v.At B W (.agg #[u0, u1, u2, .slice a m c])) : ∀ j (h : j < v.l.length), VD.Elem B W (v.l[j]'h) a j := by
  rw [VD.at_iff] at h
  obtain ⟨a', c', he, _, _, _, _, _, h7⟩ := h
  simp only [Value.agg.injEq] at he
  have he := congrArg Array.toList he
  simp only [List.cons.injEq, Value.slice.injEq] at he
  obtain ⟨_, _, _, ⟨rfl, _⟩, _⟩ := he
  exact h7

/-- Right but for what is in its list. -/
def VD.alone (v : VD) : Bool :=
  (decide (v.k = 0) && (v.s.isEmpty && v.l.isEmpty)) || (decide (v.k = 1) && (decide (v.s.length ≤ 100) && decide (v.n = 0) && v.l.isEmpty)) || (decide (v.k = 2) && (decide (v.l.length ≤ 40) && decide (v.n = 0) && v.s.isEmpty))
theorem VD.kindsL_nil {v : VD} (h : v.l.isEmpty = true) : VD.kindsL v.l = true := by rw [List.isEmpty_iff.1 h]; rfl
theorem VD.kinds_alone (v : VD) : v.kinds = (v.alone && VD.kindsL v.l) := by
  have hnil := @VD.kindsL_nil v
  rw [VD.alone]
  by_cases h0 : v.k = 0
  · rw [VD.kinds_0 h0, decide_eq_true h0, decide_eq_false (by omega : ¬ v.k = 1), decide_eq_false (by omega : ¬ v.k = 2)]
    revert hnil
    cases v.s.isEmpty <;> cases v.l.isEmpty <;> cases VD.kindsL v.l <;> simp
  by_cases h1 : v.k = 1
  · rw [VD.kinds_1 h1, decide_eq_true h1, decide_eq_false (by omega : ¬ v.k = 0), decide_eq_false (by omega : ¬ v.k = 2)]
    revert hnil
    cases decide (v.n = 0) <;> cases v.l.isEmpty <;> cases decide (v.s.length ≤ 100) <;> cases VD.kindsL v.l <;> simp
  by_cases h2 : v.k = 2
  · rw [VD.kinds_2 h2, decide_eq_true h2, decide_eq_false (by omega : ¬ v.k = 0), decide_eq_false (by omega : ¬ v.k = 1)]
    clear hnil
    cases decide (v.n = 0) <;> cases v.s.isEmpty <;> cases decide (v.l.length ≤ 40) <;> cases VD.kindsL v.l <;> simp
  rw [VD.kinds_3 h0 h1 h2, decide_eq_false h0, decide_eq_false h1, decide_eq_false h2]
  simp

theorem within_any (a : Option Addr) (c K n : Nat) (N : Int) (z : ByteArray) (d : Nat) (hd : d < 65536) (w : World) : Calls Tryd.prog 51 #[.agg #[.int .u8 ((K : Nat) : Int), .int .i64 N, .string z, .slice a n c], .int .i64 ((d : Nat) : Int)] w fun e w' => e = .returned (.slice a n c) ∧ Below w.heap.size w w' := by
  have hdi : ¬ ((d : Nat) : Int) ≥ 65536 := by omega
  have HB1 : Hid (Below w.heap.size w (w.alloc (.cells #[.int .u8 ((K : Nat) : Int), .int .i64 N, .string z, .slice a n c] 24))) := (Below.refl _ w).alloc (Nat.le_refl _) _
  go_enter Tryd.func51, Tryd.ntmps51
  go_wp2
  go_ret
  exact ⟨rfl, unhide HB1⟩

set_option maxRecDepth 100000 in
set_option maxHeartbeats 2000000 in
theorem alone_any (v : VD) (B : Nat → Prop) (u : Value) (w : World) (hA : v.At B w u) : Calls Tryd.prog 50 #[u] w fun e w' => e = .returned (.bool v.alone) ∧ Below w.heap.size w w' := by
  obtain ⟨a, c, rfl, hlc, hbox⟩ := hA.box
  have HBX := hide (hbox 24)
  have HB1 : Hid (Below w.heap.size w (w.alloc (.cells #[.int .u8 ((v.k : Nat) : Int), .int .i64 v.n, .string ⟨v.s.toArray⟩, .slice a v.l.length c] 24))) := (Below.refl _ w).alloc (Nat.le_refl _) _
  clear hA hbox
  obtain ⟨n, hn⟩ : ∃ n, n = v.l.length := ⟨_, rfl⟩
  have HN := hide hn
  rw [← hn] at hlc ⊢ HBX HB1
  clear hn
  have hsz : (⟨v.s.toArray⟩ : ByteArray).size = v.s.length := by simp [ByteArray.size]
  obtain ⟨m, hm⟩ : ∃ m, m = v.s.length := ⟨_, rfl⟩
  rw [← hm] at hsz
  have HMS := hide hm
  have hzl : (⟨v.s.toArray⟩ : ByteArray).toList = v.s := by rw [ByteArray.toList_eq]
  have HZL := hide hzl
  clear hm hzl
  obtain ⟨K, hK⟩ : ∃ K, K = v.k := ⟨_, rfl⟩
  have HK := hide hK
  rw [← hK] at HBX HB1 ⊢
  clear hK
  have hc := (unhide HBX).c0
  have hc1 := (unhide HBX).c1
  have hc2 := (unhide HBX).c2
  have hc3 := (unhide HBX).c3
  rw [← unhide HN] at hc3
  rw [← unhide HK] at hc
  generalize (⟨v.s.toArray⟩ : ByteArray) = z at *
  have HLE : Hid (v.l.isEmpty = decide (n = 0)) := by
    show _ = _
    rw [unhide HN]
    cases v.l <;> simp
  obtain ⟨se, hse⟩ : ∃ se, se = v.s.isEmpty := ⟨_, rfl⟩
  have hze : z.toList.isEmpty = se := by rw [unhide HZL, hse]
  have HSE := hide hse
  obtain ⟨N, hNn⟩ : ∃ N, N = v.n := ⟨_, rfl⟩
  rw [← hNn] at HBX hc1 ⊢ HB1
  have HKD : Hid (v.alone = ((decide (K = 0) && (se && decide (n = 0))) || (decide (K = 1) && (decide (m ≤ 100) && decide (N = 0) && decide (n = 0))) || (decide (K = 2) && (decide (n ≤ 40) && decide (N = 0) && se)))) := by
    show _ = _
    rw [VD.alone, unhide HLE, hse, hNn, unhide HMS, ← unhide HK, unhide HN]
  clear hse hNn HK HMS HSE HLE HZL
  clear HBX
  by_cases h0 : K = 0
  · have g0 : (((K : Nat) : Int) == 0) = true := by rw [beq_iff_eq]; omega
    have HV : Hid (v.alone = (se && decide (n = 0))) := by show _ = _; rw [unhide HKD, h0]; simp
    clear h0
    cases se with
    | false =>
      go_enter Tryd.func50, Tryd.ntmps50
      go_wp2
      go_ret
      exact ⟨ret_bool (by rw [unhide HV]; rfl), unhide HB1⟩
    | true =>
      by_cases hn0 : n = 0
      · have gn : (((n : Nat) : Int) == 0) = true := by rw [beq_iff_eq]; omega
        have HN0 := hide hn0
        clear hn0
        go_enter Tryd.func50, Tryd.ntmps50
        go_wp2
        go_ret
        exact ⟨ret_bool (by rw [unhide HV, decide_eq_true (unhide HN0)]; rfl), unhide HB1⟩
      · have gn : (((n : Nat) : Int) == 0) = false := by rw [beq_eq_false_iff_ne]; omega
        have HN0 := hide hn0
        clear hn0
        go_enter Tryd.func50, Tryd.ntmps50
        go_wp2
        go_ret
        exact ⟨ret_bool (by rw [unhide HV, decide_eq_false (unhide HN0)]; rfl), unhide HB1⟩
  have g0 : (((K : Nat) : Int) == 0) = false := by rw [beq_eq_false_iff_ne]; omega
  by_cases h1 : K = 1
  · have g1 : (((K : Nat) : Int) == 1) = true := by rw [beq_iff_eq]; omega
    have HV : Hid (v.alone = (decide (m ≤ 100) && decide (N = 0) && decide (n = 0))) := by show _ = _; rw [unhide HKD, h1]; simp
    clear h1 h0
    by_cases hm1 : m ≤ 100
    · have gm : ((m : Nat) : Int) ≤ 100 := by omega
      have HM1 := hide hm1
      clear hm1
      by_cases hN0 : N = 0
      · have gN : (N == 0) = true := beq_iff_eq.2 hN0
        have HN0 := hide hN0
        clear hN0
        by_cases hn0 : n = 0
        · have gn : (((n : Nat) : Int) == 0) = true := by rw [beq_iff_eq]; omega
          have Hn0 := hide hn0
          clear hn0
          go_enter Tryd.func50, Tryd.ntmps50
          go_wp2
          go_ret
          exact ⟨ret_bool (by rw [unhide HV, decide_eq_true (unhide HM1), decide_eq_true (unhide HN0), decide_eq_true (unhide Hn0)]; rfl), unhide HB1⟩
        · have gn : (((n : Nat) : Int) == 0) = false := by rw [beq_eq_false_iff_ne]; omega
          have Hn0 := hide hn0
          clear hn0
          go_enter Tryd.func50, Tryd.ntmps50
          go_wp2
          go_ret
          exact ⟨ret_bool (by rw [unhide HV, decide_eq_false (unhide Hn0)]; simp), unhide HB1⟩
      · have gN : (N == 0) = false := beq_eq_false_iff_ne.2 hN0
        have HN0 := hide hN0
        clear hN0
        go_enter Tryd.func50, Tryd.ntmps50
        go_wp2
        go_ret
        exact ⟨ret_bool (by rw [unhide HV, decide_eq_false (unhide HN0)]; simp), unhide HB1⟩
    · have gm : ¬ ((m : Nat) : Int) ≤ 100 := by omega
      have HM1 := hide hm1
      clear hm1
      go_enter Tryd.func50, Tryd.ntmps50
      go_wp2
      go_ret
      exact ⟨ret_bool (by rw [unhide HV, decide_eq_false (unhide HM1)]; simp), unhide HB1⟩
  have g1 : (((K : Nat) : Int) == 1) = false := by rw [beq_eq_false_iff_ne]; omega
  by_cases h2 : K = 2
  · have g2 : (((K : Nat) : Int) == 2) = true := by rw [beq_iff_eq]; omega
    have HV : Hid (v.alone = (decide (n ≤ 40) && decide (N = 0) && se)) := by show _ = _; rw [unhide HKD, h2]; simp
    clear h2 h1 h0
    by_cases hn40 : n ≤ 40
    · have gn : ((n : Nat) : Int) ≤ 40 := by omega
      have HN40 := hide hn40
      clear hn40
      by_cases hN0 : N = 0
      · have gN : (N == 0) = true := beq_iff_eq.2 hN0
        have HN0 := hide hN0
        clear hN0
        cases se with
        | false =>
          go_enter Tryd.func50, Tryd.ntmps50
          go_wp2
          go_ret
          exact ⟨ret_bool (by rw [unhide HV]; simp), unhide HB1⟩
        | true =>
          go_enter Tryd.func50, Tryd.ntmps50
          go_wp2
          go_ret
          exact ⟨ret_bool (by rw [unhide HV, decide_eq_true (unhide HN40), decide_eq_true (unhide HN0)]; rfl), unhide HB1⟩
      · have gN : (N == 0) = false := beq_eq_false_iff_ne.2 hN0
        have HN0 := hide hN0
        clear hN0
        go_enter Tryd.func50, Tryd.ntmps50
        go_wp2
        go_ret
        exact ⟨ret_bool (by rw [unhide HV, decide_eq_false (unhide HN0)]; simp), unhide HB1⟩
    · have gn : ¬ ((n : Nat) : Int) ≤ 40 := by omega
      have HN40 := hide hn40
      clear hn40
      go_enter Tryd.func50, Tryd.ntmps50
      go_wp2
      go_ret
      exact ⟨ret_bool (by rw [unhide HV, decide_eq_false (unhide HN40)]; simp), unhide HB1⟩
  · have g2 : (((K : Nat) : Int) == 2) = false := by rw [beq_eq_false_iff_ne]; omega
    have HV : Hid (v.alone = false) := by show _ = _; rw [unhide HKD, decide_eq_false h0, decide_eq_false h1, decide_eq_false h2]; simp
    clear h2 h1 h0
    go_enter Tryd.func50, Tryd.ntmps50
    go_wp2
    go_ret
    exact ⟨ret_bool (unhide HV).symm, unhide HB1⟩
end Go.Proofs.YtobgmbfoofkdeaaDoor

namespace Go.Proofs.YtobgmbfoofkdeaaDoor

/-- b begins with the bytes of the value v, no deeper than d, of at most 200 parts; they are j. -/
structure VReads (b : List UInt8) (d : Nat) (v : VD) (j : Nat) : Prop where
  kinds : v.kinds = true
  deep : v.deep ≤ d
  parts : v.parts ≤ 200
  fits : v.Fits
  len : j = v.bytes.length
  eq : b = v.bytes ++ b.drop j
def NoVal (b : List UInt8) (d : Nat) : Prop := ∀ v j, ¬ VReads b d v j
theorem VReads.of {b r : List UInt8} {d : Nat} {v : VD} (hk : v.kinds = true) (hd : v.deep ≤ d) (hp : v.parts ≤ 200) (hf : v.Fits) (h : b = v.bytes ++ r) : VReads b d v v.bytes.length := ⟨hk, hd, hp, hf, rfl, by rw [h]; simp⟩
theorem VReads.same {b : List UInt8} {d d' : Nat} {v w : VD} {i j : Nat} (h : VReads b d v i) (h' : VReads b d' w j) : v = w ∧ i = j := by
  obtain ⟨rfl, _⟩ := VD.bytes_prefix v w _ _ h.kinds h'.kinds (h.eq.symm.trans h'.eq)
  exact ⟨rfl, by rw [h.len, h'.len]⟩
theorem VReads.le {b : List UInt8} {d : Nat} {v : VD} {j : Nat} (h : VReads b d v j) : j ≤ b.length := by
  have := h.eq
  rw [h.len, this]; simp
theorem numB_small (k : Nat) (h : k ≤ 2) : InR ((k : Nat) : Int) := by unfold InR; omega
/-- It begins with its kind. -/
theorem VReads.kind {b : List UInt8} {d : Nat} {v : VD} {j : Nat} (h : VReads b d v j) : Reads b ((v.k : Nat) : Int) (numB ((v.k : Nat) : Int)).length ∧ v.k ≤ 2 := by
  have he := h.eq
  rcases VD.kinds_cases h.kinds with ⟨n, rfl⟩ | ⟨s, rfl, _⟩ | ⟨l, rfl, _⟩
  · exact ⟨Reads.of (r := numB n ++ b.drop j) (numB_small 0 (by omega)) (he.trans (by simp [VD.bytes, VD.k])), by simp [VD.k]⟩
  · exact ⟨Reads.of (r := textB s ++ b.drop j) (numB_small 1 (by omega)) (he.trans (by simp [VD.bytes, VD.k])), by simp [VD.k]⟩
  · have e : VD.bytes (.mk 2 0 [] l) = numB ((2 : Nat) : Int) ++ (numB ((l.length : Nat) : Int) ++ VD.bytesL l) := rfl
    exact ⟨Reads.of (r := (numB ((l.length : Nat) : Int) ++ VD.bytesL l) ++ b.drop j) (numB_small 2 (by omega)) (he.trans (by rw [e]; simp [VD.k])), by simp [VD.k]⟩
theorem noVal_num {b : List UInt8} {d : Nat} (h : NoNum b) : NoVal b d := fun _ _ hr => h _ _ hr.kind.1
theorem noVal_kind {b : List UInt8} {d : Nat} {x : Int} {k : Nat} (h : Reads b x k) (hx : x < 0 ∨ 2 < x) : NoVal b d := fun v j hr => by
  obtain ⟨h1, h2⟩ := hr.kind
  obtain ⟨e, _⟩ := h.same h1
  omega
theorem noVal_zero {b : List UInt8} : NoVal b 0 := fun v j hr => by have := hr.deep; have := v.deep_pos; omega
/-- A number, a text, a list behind the kind. -/
theorem VReads.behind {b : List UInt8} {d : Nat} {v : VD} {j : Nat} (h : VReads b d v j) {x : Int} {k : Nat} (hk : Reads b x k) : x = ((v.k : Nat) : Int) ∧ b.drop k ++ [] = (v.bytes.drop k ++ b.drop j) ++ [] := by
  obtain ⟨h1, h2⟩ := h.kind
  obtain ⟨rfl, rfl⟩ := hk.same h1
  refine ⟨rfl, ?_⟩
  simp only [List.append_nil]
  have he := h.eq
  have hl : (numB ((v.k : Nat) : Int)).length ≤ v.bytes.length := by
    rcases VD.kinds_cases h.kinds with ⟨n, rfl⟩ | ⟨s, rfl, _⟩ | ⟨l, rfl, _⟩
    · simp [VD.bytes, VD.k]
    · simp [VD.bytes, VD.k]
    · have e : VD.bytes (.mk 2 0 [] l) = numB ((2 : Nat) : Int) ++ (numB ((l.length : Nat) : Int) ++ VD.bytesL l) := rfl
      rw [e]; simp [VD.k]
  conv => { lhs; rw [he] }
  rw [List.drop_append_of_le_length hl]
theorem drop_numB {n : Int} {r : List UInt8} : (numB n ++ r).drop (numB n).length = r := List.drop_left' rfl
/-- A text. -/
theorem vreads_text {b : List UInt8} {d k j : Nat} {s : List UInt8} (h : Reads b 1 k) (ht : ReadsT (b.drop k) 100 s j) (hd : 1 ≤ d) : VReads b d (.mk 1 0 s []) (k + (j + s.length)) := by
  have h1 := ht.whole
  have h2 := h.eq
  have hs : s.length ≤ 100 := by have := ht.most; omega
  have e : b = VD.bytes (.mk 1 0 s []) ++ (b.drop k).drop (j + s.length) := by
    rw [VD.bytes, List.append_assoc, ← h1, ← h2]
  have := VReads.of (d := d) (v := .mk 1 0 s []) (r := (b.drop k).drop (j + s.length)) (by simp [VD.kinds]; exact hs) (by simp [VD.deep, VD.deepL]; exact hd) (by simp [VD.parts, VD.partsL]) (.mk _ _ _ _ (by unfold InR; omega) (fun x hx => by cases hx)) e
  have hl : (VD.bytes (.mk 1 0 s [])).length = k + (j + s.length) := by
    rw [VD.bytes, textB, List.length_append, List.length_append, ← h.len, ← ht.num.len]
  rwa [hl] at this
theorem noVal_text {b : List UInt8} {d k : Nat} (h : Reads b 1 k) (ht : NoText (b.drop k) 100) : NoVal b d := fun v j hr => by
  obtain ⟨h1, h2⟩ := hr.behind h
  simp only [List.append_nil] at h2
  rcases VD.kinds_cases hr.kinds with ⟨n, rfl⟩ | ⟨s, rfl, hs⟩ | ⟨l, rfl, _⟩
  · simp [VD.k] at h1
  · have e : (VD.bytes (.mk 1 0 s [])).drop k = textB s := by
      rw [VD.bytes, h.len]; exact drop_numB
    rw [e] at h2
    exact ht _ _ (ReadsT.of (s := s) (r := b.drop j) (most := 100) (by unfold InR; omega) (by omega) h2)
  · simp [VD.k] at h1
/-- A number. -/
theorem vreads_num {b : List UInt8} {d k j : Nat} {n : Int} (h : Reads b 0 k) (ht : Reads (b.drop k) n j) (hd : 1 ≤ d) : VReads b d (.mk 0 n [] []) (k + j) := by
  have h1 := ht.eq
  have h2 := h.eq
  have e : b = VD.bytes (.mk 0 n [] []) ++ (b.drop k).drop j := by
    rw [VD.bytes, List.append_assoc, ← h1, ← h2]
  have := VReads.of (d := d) (v := .mk 0 n [] []) (r := (b.drop k).drop j) (by simp [VD.kinds]) (by simp [VD.deep, VD.deepL]; exact hd) (by simp [VD.parts, VD.partsL]) (.mk _ _ _ _ ht.inr (fun x hx => by cases hx)) e
  have hl : (VD.bytes (.mk 0 n [] [])).length = k + j := by rw [VD.bytes, List.length_append, ← h.len, ← ht.len]
  rwa [hl] at this
/-- Neither a number nor a list has no number behind its kind. -/
theorem noVal_second {b : List UInt8} {d k : Nat} {x : Int} (h : Reads b x k) (hx : x ≠ 1) (ht : NoNum (b.drop k)) : NoVal b d := fun v j hr => by
  obtain ⟨h1, h2⟩ := hr.behind h
  simp only [List.append_nil] at h2
  rcases VD.kinds_cases hr.kinds with ⟨n, rfl⟩ | ⟨s, rfl, hs⟩ | ⟨l, rfl, hl, _⟩
  · have e : (VD.bytes (.mk 0 n [] [])).drop k = numB n := by rw [VD.bytes, h.len, h1]; exact drop_numB
    rw [e] at h2
    exact ht _ _ (Reads.of (r := b.drop j) hr.fits.n h2)
  · exact hx h1
  · have e : (VD.bytes (.mk 2 0 [] l)).drop k = numB ((l.length : Nat) : Int) ++ VD.bytesL l := by
      have e : VD.bytes (.mk 2 0 [] l) = numB ((2 : Nat) : Int) ++ (numB ((l.length : Nat) : Int) ++ VD.bytesL l) := rfl
      rw [e, h.len, h1]; exact drop_numB
    rw [e, List.append_assoc] at h2
    exact ht _ _ (Reads.of (r := VD.bytesL l ++ b.drop j) (by unfold InR; omega) h2)
/-- What a list's bytes are. -/
theorem VReads.list {b : List UInt8} {d k i j : Nat} {n : Int} {v : VD} (hr : VReads b d v j) (h : Reads b 2 k) (ht : Reads (b.drop k) n i) : ∃ l, v = .mk 2 0 [] l ∧ n = ((l.length : Nat) : Int) ∧ l.length ≤ 40 ∧ (∀ x ∈ l, x.kinds = true) ∧ b.drop (k + i) = VD.bytesL l ++ b.drop j := by
  obtain ⟨h1, h2⟩ := hr.behind h
  simp only [List.append_nil] at h2
  rcases VD.kinds_cases hr.kinds with ⟨n', rfl⟩ | ⟨s, rfl, hs⟩ | ⟨l, rfl, hl, hk⟩
  · simp [VD.k] at h1
  · simp [VD.k] at h1
  · have e : (VD.bytes (.mk 2 0 [] l)).drop k = numB ((l.length : Nat) : Int) ++ VD.bytesL l := by
      have e : VD.bytes (.mk 2 0 [] l) = numB ((2 : Nat) : Int) ++ (numB ((l.length : Nat) : Int) ++ VD.bytesL l) := rfl
      rw [e, h.len]; exact drop_numB
    rw [e, List.append_assoc] at h2
    have h3 := Reads.of (r := VD.bytesL l ++ b.drop j) (n := ((l.length : Nat) : Int)) (by unfold InR; omega) h2
    obtain ⟨rfl, rfl⟩ := ht.same h3
    refine ⟨l, rfl, rfl, hl, hk, ?_⟩
    rw [← List.drop_drop, h2]
    exact drop_numB
theorem noVal_count {b : List UInt8} {d k i : Nat} {n : Int} (h : Reads b 2 k) (ht : Reads (b.drop k) n i) (hn : n < 0 ∨ 40 < n) : NoVal b d := fun v j hr => by
  obtain ⟨l, _, h1, h2, _⟩ := hr.list h ht
  omega
/-- A list that is read as far as this. -/
structure Listed (b : List UInt8) (d : Nat) (at0 : Nat) (q : List VD) (at1 : Nat) : Prop where
  kinds : ∀ x ∈ q, x.kinds = true
  deep : ∀ x ∈ q, x.deep ≤ d
  fits : ∀ x ∈ q, x.Fits
  eq : b.drop at0 = VD.bytesL q ++ b.drop at1
  len : at1 = at0 + (VD.bytesL q).length
theorem Listed.nil (b : List UInt8) (d at0 : Nat) : Listed b d at0 [] at0 := ⟨fun x hx => (by cases hx), fun x hx => (by cases hx), fun x hx => (by cases hx), by simp [VD.bytesL], by simp [VD.bytesL]⟩
theorem Listed.snoc {b : List UInt8} {d a0 a1 j : Nat} {q : List VD} {x : VD} (h : Listed b d a0 q a1) (hx : VReads (b.drop a1) d x j) : Listed b d a0 (q ++ [x]) (a1 + j) := by
  refine ⟨fun y hy => ?_, fun y hy => ?_, fun y hy => ?_, ?_, ?_⟩
  · rcases List.mem_append.1 hy with h1 | h1
    · exact h.kinds y h1
    · rw [List.mem_singleton.1 h1]; exact hx.kinds
  · rcases List.mem_append.1 hy with h1 | h1
    · exact h.deep y h1
    · rw [List.mem_singleton.1 h1]; exact hx.deep
  · rcases List.mem_append.1 hy with h1 | h1
    · exact h.fits y h1
    · rw [List.mem_singleton.1 h1]; exact hx.fits
  · rw [VD.bytesL_append, h.eq, List.append_assoc]
    congr 1
    rw [← List.drop_drop]
    have := hx.eq
    simpa [VD.bytesL] using this
  · rw [VD.bytesL_append, List.length_append, h.len, hx.len]
    simp [VD.bytesL]
    omega
/-- It is the begin of any list that the bytes are. -/
theorem Listed.begin {b : List UInt8} {d a0 a1 : Nat} : ∀ {q l : List VD} {r : List UInt8}, Listed b d a0 q a1 → (∀ x ∈ l, x.kinds = true) → q.length ≤ l.length → b.drop a0 = VD.bytesL l ++ r → ∃ p, l = q ++ p ∧ b.drop a1 = VD.bytesL p ++ r := by
  intro q l r h hl hq he
  have key : ∀ (q l : List VD) (s : List UInt8), (∀ x ∈ q, x.kinds = true) → (∀ x ∈ l, x.kinds = true) → q.length ≤ l.length → VD.bytesL q ++ s = VD.bytesL l ++ r → ∃ p, l = q ++ p ∧ s = VD.bytesL p ++ r := by
    intro q
    induction q with
    | nil => intro l s _ _ _ h; exact ⟨l, rfl, by simpa [VD.bytesL] using h⟩
    | cons x q ih =>
      intro l s hq hl hlen h
      match l, hlen with
      | y :: l, hlen =>
        simp only [VD.bytesL, List.append_assoc] at h
        obtain ⟨rfl, h2⟩ := VD.bytes_prefix x y _ _ (hq x (by simp)) (hl y (by simp)) h
        obtain ⟨p, rfl, hp⟩ := ih l s (fun z hz => hq z (by simp [hz])) (fun z hz => hl z (by simp [hz])) (by simpa using hlen) h2
        exact ⟨p, rfl, hp⟩
  exact key q l _ h.kinds hl hq (h.eq.symm.trans he)
theorem noVal_next {b : List UInt8} {d k i a1 : Nat} {n : Nat} {q : List VD} (h : Reads b 2 k) (ht : Reads (b.drop k) ((n : Nat) : Int) i) (hL : Listed b d (k + i) q a1) (hq : q.length < n) (hN : NoVal (b.drop a1) d) : NoVal b (d + 1) := fun v j hr => by
  obtain ⟨l, rfl, h1, h2, h3, h4⟩ := hr.list h ht
  have hln : n = l.length := by omega
  obtain ⟨p, rfl, hp⟩ := hL.begin h3 (by omega) h4
  match p, hp, hln with
  | [], _, hln => simp at hln; omega
  | x :: p, hp, _ =>
    simp only [VD.bytesL, List.append_assoc] at hp
    have hd := hr.deep
    rw [VD.deep_mk] at hd
    have hxm : x ∈ q ++ x :: p := by simp
    have hpp := hr.parts
    rw [VD.parts_mk] at hpp
    exact hN _ _ (VReads.of (h3 x hxm) (by have := VD.deep_mem hxm; simp only [VD.l] at hd; omega) (by have := VD.parts_mem hxm; simp only [VD.l] at hpp; omega) (hr.fits.mem hxm) hp)
theorem noVal_parts {b : List UInt8} {d k i a1 : Nat} {n : Nat} {q : List VD} (h : Reads b 2 k) (ht : Reads (b.drop k) ((n : Nat) : Int) i) (hL : Listed b d (k + i) q a1) (hq : q.length ≤ n) (hN : 200 < VD.partsL q + 1) : NoVal b (d + 1) := fun v j hr => by
  obtain ⟨l, rfl, h1, h2, h3, h4⟩ := hr.list h ht
  obtain ⟨p, rfl, hp⟩ := hL.begin h3 (by omega) h4
  have hpp := hr.parts
  rw [VD.parts_mk] at hpp
  simp only [VD.l, VD.partsL_append] at hpp
  omega
theorem vreads_list {b : List UInt8} {d k i a1 : Nat} {q : List VD} (h : Reads b 2 k) (ht : Reads (b.drop k) ((q.length : Nat) : Int) i) (hL : Listed b d (k + i) q a1) (hq : q.length ≤ 40) (hN : VD.partsL q + 1 ≤ 200) : VReads b (d + 1) (.mk 2 0 [] q) a1 := by
  have e0 : VD.bytes (.mk 2 0 [] q) = numB ((2 : Nat) : Int) ++ (numB ((q.length : Nat) : Int) ++ VD.bytesL q) := rfl
  have e : b = VD.bytes (.mk 2 0 [] q) ++ b.drop a1 := by
    rw [e0, List.append_assoc, List.append_assoc, ← hL.eq, ← List.drop_drop, ← ht.eq]
    exact h.eq
  have := VReads.of (d := d + 1) (v := .mk 2 0 [] q) (r := b.drop a1) (by simp [VD.kinds, hq]; exact (VD.kindsL_iff q).2 hL.kinds) (by rw [VD.deep_mk]; have := VD.deepL_le hL.deep; simp only [VD.l]; omega) (by rw [VD.parts_mk]; exact hN) (.mk _ _ _ _ (by unfold InR; omega) hL.fits) e
  have hl : (VD.bytes (.mk 2 0 [] q)).length = a1 := by
    have hk := h.len
    have hi := ht.len
    rw [e0, List.length_append, List.length_append, hL.len, hk, hi]
    have : ((2 : Nat) : Int) = 2 := rfl
    rw [this]
    omega
  rwa [hl] at this
end Go.Proofs.YtobgmbfoofkdeaaDoor
