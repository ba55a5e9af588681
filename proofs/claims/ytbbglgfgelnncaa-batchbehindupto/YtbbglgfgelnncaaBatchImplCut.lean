/- The landed package batch: Cut, a loop over slices.Chunk. No statement of the seat is proved here. -/
import Derived.Test.YtbbglgfgelnncaaBatchImplChunk
import Derived.Test.YtbbglgfgelnncaaRecImplA
import Derived.Test.YtbbglgfgelnncaaGenHeads
namespace Go.Proofs.Ytbbglgfgelnncaa
open Go.RowKit Go.Shelf
attribute [local go_sem] Oper.semAt_some

/-- The variables of Cut, each in its block, and the rows so far. -/
structure CutSt (w : World) (u v : Value) (rows : List (List UInt8)) (W : World) : Prop where
  bR : Boxed W w.heap.size 22 v
  b1 : Boxed W (w.heap.size + 1) 23 u
  b2 : Boxed W (w.heap.size + 2) 3 (.int .i64 4096)
  own : ∃ vs, W.ownsRow (w.heap.size + 3) 23 1 v rows.length vs ∧ ∀ (i : Nat) x, rows[i]? = some x → ∃ u, vs[i]? = some u ∧ Own w u x W
  bb : Below w.heap.size w W
section
variable {w : World} {u v : Value} {rows : List (List UInt8)} {W : World}
theorem CutSt.keep (h : CutSt w u v rows W) {W' : World} (hb : Below w.heap.size w W') (hk : ∀ (k : Nat) (cs : Array Value) (t : TypeId) (f : Nat × Nat), W.heap[k]? = some (Obj.cells cs t f) → W'.heap[k]? = W.heap[k]?) : CutSt w u v rows W' := by
  obtain ⟨vs, h1, h2⟩ := h.own
  refine ⟨(hk _ _ _ _ h.bR).trans h.bR, (hk _ _ _ _ h.b1).trans h.b1, (hk _ _ _ _ h.b2).trans h.b2, ⟨vs, row_keeps h1 fun k hk' => ?_, fun i x hx => by obtain ⟨u', e1, e2⟩ := h2 i x hx; exact ⟨u', e1, e2.keepT hb fun k cs f => hk k cs _ f⟩⟩, hb⟩
  rcases h1.2 with ⟨e, _⟩ | ⟨g, cap, cur, e, _, h3, _⟩
  · rw [e] at hk'; cases hk'
  · rw [e] at hk'
    have e' : g = k := by simpa [Value.ownBlock] using hk'
    subst e'
    exact hk g cur _ (0, 0) h3
theorem CutSt.later (h : CutSt w u v rows W) {W' : World} (hb : Below W.heap.size W W') : CutSt w u v rows W' :=
  h.keep (h.bb.trans (hb.mono h.bb.size)) fun k _ _ _ hk => hb.block k (Array.getElem?_eq_some_iff.1 hk).1
theorem CutSt.size (h : CutSt w u v rows W) : w.heap.size + 3 ≤ W.heap.size := h.b2.lt
theorem CutSt.form (h : CutSt w u v rows W) : ∃ a c, v = .slice a rows.length c := by
  obtain ⟨vs, h1, _⟩ := h.own
  rcases h1.2 with ⟨rfl, h0⟩ | ⟨g, cap, cur, rfl, _⟩
  · exact ⟨_, _, by rw [h0]⟩
  · exact ⟨_, _, rfl⟩
theorem CutSt.putD (h : CutSt w u v rows W) {D : Nat} {o : Obj} (o' : Obj) (hD : w.heap.size ≤ D) (hK : W.heap[D]? = some o) (ho : o.isCells = false) : CutSt w u v rows (W.putObj D o') :=
  h.keep (h.bb.grown (grownBy_putObj' W D o') h.bb.size fun k e => by cases e; exact hD) fun k cs t f hk => World.putObj_heap_other fun e => by
    subst e
    rw [hk] at hK
    cases hK
    cases ho
/-- A row is appended, and the rows are laid back into their variable. -/
theorem CutSt.grown (h : CutSt w u v rows W) {W' : World} {v' : Value} {x : List UInt8} {ux : Value} {vs : List Value} (hvs : W.ownsRow (w.heap.size + 3) 23 1 v rows.length vs) (hv2 : ∀ (i : Nat) x, rows[i]? = some x → ∃ u, vs[i]? = some u ∧ Own w u x W) (hx : Own w ux x W) (r1 : W'.ownsRow (w.heap.size + 3) 23 1 v' (rows.length + 1) (vs ++ [ux])) (r2 : W.grownBy W' v.ownBlock) :
    CutSt w u v' (rows ++ [x]) (W'.setCell ⟨w.heap.size, 0, none⟩ v') ∧ Boxed W' w.heap.size 22 v := by
  have hnr : ∀ k, k < w.heap.size + 3 → some k ≠ v.ownBlock := fun k hk e => by have := (hvs.lt k e.symm).1; omega
  have kR : Boxed W' w.heap.size 22 v := h.bR.kept r2 (hnr _ (by omega))
  have k1 : Boxed W' (w.heap.size + 1) 23 u := h.b1.kept r2 (hnr _ (by omega))
  have k2 : Boxed W' (w.heap.size + 2) 3 (.int .i64 4096) := h.b2.kept r2 (hnr _ (by omega))
  have hb' : Below w.heap.size w W' := h.bb.grown r2 h.bb.size fun k hk => by have := (hvs.lt k hk).1; omega
  have hb2 : Below w.heap.size w (W'.setCell ⟨w.heap.size, 0, none⟩ v') := hb'.setCell (p := ⟨w.heap.size, 0, none⟩) (by simp) _
  have hty : ∀ (k : Nat) (cs : Array Value) (f : Nat × Nat), W.heap[k]? = some (Obj.cells cs 5 f) → (W'.setCell ⟨w.heap.size, 0, none⟩ v').heap[k]? = W.heap[k]? := fun k cs f hk => by
    have e1 : W'.heap[k]? = W.heap[k]? := r2.block k (Array.getElem?_eq_some_iff.1 hk).1 fun e => by
      rcases hvs.2 with ⟨e1, _⟩ | ⟨g2, _, _, e1, _, e3, _⟩
      · rw [e1] at e; cases e
      · rw [e1] at e
        have e' : k = g2 := by simpa [Value.ownBlock] using e
        subst e'
        rw [e3] at hk
        cases hk
    rw [Below.heap_setCell _ _ _ _ fun e => ?_, e1]
    have e : k = w.heap.size := e
    subst e
    have h3 : W.heap[w.heap.size]? = _ := h.bR
    rw [hk] at h3
    cases h3
  have hvl : vs.length = rows.length := by have := hvs.1; omega
  have hrk : (W'.setCell ⟨w.heap.size, 0, none⟩ v').ownsRow (w.heap.size + 3) 23 1 v' (rows.length + 1) (vs ++ [ux]) := row_keeps r1 fun k hk => Below.heap_setCell _ _ _ _ fun e => by
    have e : k = w.heap.size := e
    have := (r1.lt k hk).1
    omega
  refine ⟨⟨kR.set _, k1.other (by omega) _, k2.other (by omega) _, ⟨vs ++ [ux], by rw [List.length_append, List.length_singleton]; exact hrk, fun i y hy => ?_⟩, hb2⟩, kR⟩
  · by_cases hi : i < rows.length
    · rw [List.getElem?_append_left hi] at hy
      obtain ⟨u', e1, e2⟩ := hv2 i y hy
      exact ⟨u', by rw [List.getElem?_append_left (by omega)]; exact e1, e2.keepT hb2 hty⟩
    · have hi2 : i = rows.length := by have := (List.getElem?_eq_some_iff.1 hy).1; rw [List.length_append, List.length_singleton] at this; omega
      rw [hi2, List.getElem?_append_right (Nat.le_refl _), Nat.sub_self] at hy
      cases hy
      exact ⟨ux, by rw [hi2, ← hvl, List.getElem?_append_right (Nat.le_refl _), Nat.sub_self]; rfl, hx.keepT hb2 hty⟩
/-- What Cut answers of them. -/
theorem CutSt.mine (h : CutSt w u v rows W) : ListAt (MineB w) W v rows := by
  obtain ⟨vs, h1, h2⟩ := h.own
  rcases h1.2 with ⟨rfl, h0⟩ | ⟨g, cap, cur, rfl, _, _, h4, _⟩
  · exact .inl ⟨⟨_, _, rfl⟩, List.eq_nil_of_length_eq_zero h0⟩
  · refine .inr ⟨g, 0, cap, rfl, h4, fun i x hx => ?_⟩
    obtain ⟨u', e1, e2⟩ := h2 i x hx
    have hc := h1.cells (g := g) rfl _ _ e1
    rw [Addr.add_mid] at hc
    refine ⟨u', hc, bytes_of_owns e2.own, fun _ k hk => e2.new k hk, fun ad n c e j hj => ?_⟩
    subst e
    obtain ⟨b, e3, _, e4, _⟩ := own_at e2.own (bytes_len (bytes_of_owns e2.own)).1 (k := j) (by have := (bytes_len (bytes_of_owns e2.own)).1; omega)
    cases e3
    rw [Addr.add_mid, Nat.zero_add]
    exact e4
end
theorem cutSt_own {w : World} {u : Value} {B : Nat} (hB : w.heap.size ≤ B) : OwnFrom B (fun (s : List Ck) W => ∃ v, CutSt w u v (s.map Ck.bs) W) := by
  rintro s X Y row ⟨v, h⟩ hg hr
  refine ⟨v, h.keep (h.bb.grown hg h.bb.size fun k e => Nat.le_trans hB (hr k e).1) fun k cs t f hk => hg.block k (Array.getElem?_eq_some_iff.1 hk).1 fun e => ?_⟩
  obtain ⟨_, o, ho, hc⟩ := hr k e.symm
  rw [hk] at ho
  cases ho
  cases hc
theorem cutSt_new (w : World) (u : Value) : CutSt w u (.slice none 0 0) [] (((w.alloc (.cells #[.slice none 0 0] 22)).alloc (.cells #[u] 23)).alloc (.cells #[.int .i64 4096] 3)) := by
  have e2 := Boxed.new w 22 (.slice none 0 0)
  obtain ⟨w1, hw1⟩ : ∃ w1, w1 = w.alloc (.cells #[.slice none 0 0] 22) := ⟨_, rfl⟩
  have s1 : w1.heap.size = w.heap.size + 1 := by rw [hw1]; simp
  have e3 := Boxed.new w1 23 u
  obtain ⟨w2, hw2⟩ : ∃ w2, w2 = w1.alloc (.cells #[u] 23) := ⟨_, rfl⟩
  have s2 : w2.heap.size = w.heap.size + 2 := by rw [hw2]; simp [s1]
  have e4 := Boxed.new w2 3 (.int .i64 4096)
  have hb : Below w.heap.size w (w2.alloc (.cells #[.int .i64 4096] 3)) := by
    rw [hw2, hw1]
    exact (((Below.refl _ w).alloc (Nat.le_refl _) _).alloc (by simp) _).alloc (by simp; omega) _
  rw [← hw1, ← hw2]
  rw [← hw1] at e2
  rw [← hw2, s1] at e3
  rw [s2] at e4
  refine ⟨?_, e3.alloc _, e4, ⟨[], World.ownsRow_nil _ _ _ _, fun i x hx => (by cases hx)⟩, hb⟩
  rw [hw2]
  exact (e2.alloc _).alloc _
theorem chunk_told (n : Nat) (hn : 1 ≤ n) (len cap : Nat) (a : Option Addr) (b : List UInt8) (w : World) (hlen : b.length = len) (hmax : len ≤ 1048576) (hne : b ≠ []) (hB : Bytes w (.slice a len cap) b) (Bb : Nat) (w2 : World) (hw2 : Below w.heap.size w w2) (hb : Boxed w2 Bb 23 (.slice a len cap)) (hb2 : Boxed w2 (Bb + 1) 3 (.int .i64 4096)) :
    Told Fence.wide n Try.prog 46 #[.pointer (some ⟨Bb, 0, none⟩), .pointer (some ⟨Bb + 1, 0, none⟩)] Ck.enc (Ck.At w) (KeepsC w.heap.size Bb) (fun ys => CutIs b (ys.map Ck.bs)) (fun _ => True) (len + 1) w2 := fun l J Jx W hW hJ hY h0 =>
  chunk1_in n hn l Bb len cap a b w hlen hmax hne hB J Jx hJ hY W (hw2.trans (hW.mono hw2.size)) ((hW.block Bb hb.lt).trans hb) ((hW.block (Bb + 1) hb2.lt).trans hb2) h0

/-- What comes of a row that is cloned, and appended. -/
structure Appended (w : World) (u v : Value) (rows : List (List UInt8)) (x : List UInt8) (W w3 : World) (r : Value) (v' : Value) (W' : World) : Prop where
  run : (Builtin.append_ #[22, 22] 22 #[v, .slice (some ⟨w3.heap.size, 0, none⟩) 1 1]).run Try.prog (w3.alloc (.cells #[r] 23)) = .ok v' W'
  box : Boxed W' w.heap.size 22 v
  st : CutSt w u v' (rows ++ [x]) (W'.setCell ⟨w.heap.size, 0, none⟩ v')
  kp : KeepsOthers W W'
  kb : Below w.heap.size W W'
  k1 : W'.heap[w.heap.size + 1]? = W.heap[w.heap.size + 1]?
  k2 : W'.heap[w.heap.size + 2]? = W.heap[w.heap.size + 2]?
theorem CutSt.append {w : World} {u v : Value} {rows : List (List UInt8)} {W w3 : World} (h : CutSt w u v rows W) {r : Value} {x : List UInt8} (hF : FreshO W w3 r x) (hl : rows.length ≤ 1048576) : ∃ v' W', Appended w u v rows x W w3 r v' W' := by
  obtain ⟨ti, hti, hy0, hy1, hy2⟩ := info_parts infoRow0
  have hb3 := hF.1.2.2
  have h3 : CutSt w u v rows w3 := h.later hb3
  have hO : Own w r x w3 := hF.own h.bb
  obtain ⟨w4, hw4⟩ : ∃ w4, w4 = w3.alloc (.cells #[r] 23) := ⟨_, rfl⟩
  have hb4 : Below w3.heap.size w3 w4 := by rw [hw4]; exact (Below.refl _ w3).alloc (Nat.le_refl _) _
  have h4 : CutSt w u v rows w4 := h3.later hb4
  have hO4 : Own w r x w4 := hO.later hb4
  obtain ⟨vs, hvs, hv2⟩ := h4.own
  have hnew : w4.heap[w3.heap.size]? = some (.cells #[r] 23 (0, 0)) := by rw [hw4]; exact heap_alloc_new w3 _
  obtain ⟨v', W', hrun, r1, r2, _, _⟩ := run_append_own_at (P := Try.prog) w4 (w.heap.size + 3) 22 22 23 ti (.slice none 0 0) 1 24 Try.underlying22 hti hy0 hy1 hy2 rfl (by decide) v rows.length vs hvs ⟨w3.heap.size, 0, none⟩ 1 1 [r] rfl
    (fun j u' hj => by
      match j, hj with
      | 0, hj => cases hj; exact cell_of_row _ _ 0 _ _ _ hnew)
    (fun u' hu' => by rw [List.mem_singleton] at hu'; rw [hu']; exact hO4.one) (by unfold maxLen; omega) (by omega) h4.size
  obtain ⟨g1, g2⟩ := h4.grown hvs hv2 hO4 r1 r2
  have hWs := h.size
  have hnr : ∀ k, k < w.heap.size + 3 → some k ≠ v.ownBlock := fun k hk e => by have := (hvs.lt k e.symm).1; omega
  have hWW4 : Below W.heap.size W w4 := hb3.trans (hb4.mono hb3.size)
  refine ⟨v', W', by rw [hw4] at hrun; exact hrun, g2, g1, ?_, ?_, ?_, ?_⟩
  · refine (KeepsOthers.of_grownBy (row := none) (below_grown hWW4) fun j o e => by cases e).trans (KeepsOthers.of_grownBy r2 fun j o e ho => ?_)
    rcases hvs.2 with ⟨e1, _⟩ | ⟨g2, _, _, e1, _, e3, _⟩
    · rw [e1] at e; cases e
    · rw [e1] at e
      have e' : g2 = j := by simpa [Value.ownBlock] using e
      subst e'
      rw [e3] at ho
      cases ho
      rfl
  · exact (hWW4.mono (by omega)).grown r2 (by have := h4.size; omega) fun k hk => by have := (hvs.lt k hk).1; omega
  · exact (r2.block _ (by have := h4.size; omega) (hnr _ (by omega))).trans (hWW4.block _ (by omega))
  · exact (r2.block _ (by have := h4.size; omega) (hnr _ (by omega))).trans (hWW4.block _ (by omega))
end Go.Proofs.Ytbbglgfgelnncaa

namespace Go.Proofs.Ytbbglgfgelnncaa
open Go.RowKit Go.Shelf
attribute [local go_sem] Oper.semAt_some

/-- append as one step of a region that draws its order, within a round. -/
theorem stepIn_append_run {F : Fence} {n : Nat} {P : Program} {ops : Array Oper} {op : Oper} {a : Act} {w : World} {K : Act → World → Prop} {Q : Exit → Act → World → Prop} {E : Prop}
    (hg : op.guard = none) (s x : Operand) (t : TypeId) (hop : op.op = Op.call { callee := Callee.builtin Builtin.append, args := #[s, x], argTypes := #[t, t] }) (v u v' : Value) (w' : World) (hsv : a.eval s = v) (hxu : a.eval x = u)
    (hrun : (Builtin.append_ #[t, t] op.type #[v, u]).run P w = .ok v' w') (hK : K (a.put op.dst v') w') : if Region.wanted op (yielded ops a.tmps) = true then Oper.wpIn F n P op a w K Q else E := by
  have hw : Region.wanted op (yielded ops a.tmps) = true := by simp [Region.wanted, hg]
  rw [if_pos hw]
  unfold Oper.wpIn
  refine ⟨by simp [Oper.about, hop, resolve, Target.leads, Sem.run_pure], ?_⟩
  rw [Oper.semAt_plain F _ _ (by rw [hop]; intro c hc'; cases hc')]
  simp [execOp, hop, resolve, invoke, builtin, hsv, hxu, hrun, Result.andThen]
  exact hK

/-- Between two rounds. -/
def CutI (w : World) (u : Value) (pre : List Ck) (W : World) : Prop := ∃ v, CutSt w u v (pre.map Ck.bs) W
/-- What the loop's own variable leaves. -/
def CutA (w : World) (a : Option Addr) (n c : Nat) (x : Ck) (a' : Act) (_ : World) : Prop := Ck.At w x w ∧ a' = { tmps := #[.slice a n c, undef, .slice none 0 0, .pointer (some ⟨w.heap.size, 0, none⟩), .slice x.a x.n x.c, .slice a n c, .int .i64 ((n : Nat) : Int), .bool false, undef, undef, .slice a n c, .func (.func 46) #[] #[.pointer (some ⟨w.heap.size + 1, 0, none⟩), .pointer (some ⟨w.heap.size + 2, 0, none⟩)], .slice x.a x.n x.c, undef, undef, undef, undef, undef, undef], defers := [] }

theorem cut_round {w w2 : World} {u v : Value} {pre : List Ck} {x : Ck} {W w3 : World} {r v' : Value} {W' : World} (h : Appended w u v (pre.map Ck.bs) x.bs W.drew w3 r v' W') :
    KeepsFrom w2.heap.size W (W'.setCell ⟨w.heap.size, 0, none⟩ v') ∧ KeepsC w.heap.size (w.heap.size + 1) W (W'.setCell ⟨w.heap.size, 0, none⟩ v') ∧ CutI w u (pre ++ [x]) (W'.setCell ⟨w.heap.size, 0, none⟩ v') := by
  refine ⟨(((KeepsOthers.drew W).trans h.kp).trans (KeepsOthers.setCell _ _ _)).from _, ⟨?_, ?_, ?_⟩, v', ?_⟩
  · exact (((Below.refl w.heap.size W).drew).trans h.kb).setCell (p := ⟨w.heap.size, 0, none⟩) (by simp) _
  · exact (Below.heap_setCell _ _ _ _ (by show w.heap.size + 1 ≠ w.heap.size; omega)).trans h.k1
  · exact (Below.heap_setCell _ _ _ _ (by show w.heap.size + 1 + 1 ≠ w.heap.size; omega)).trans h.k2
  · rw [List.map_append]
    exact h.st

set_option maxRecDepth 100000 in
set_option maxHeartbeats 4000000 in
theorem landCut_some (a : Option Addr) (n c : Nat) (b : List UInt8) (w : World) (h : Bytes w (.slice a n c) b) (hl : n ≤ 1048576) (h1 : 0 < n) : Calls Try.prog 20 #[.slice a n c] w fun e w' => ∃ v rows, e = .returned v ∧ CutIs b rows ∧ ListAt (MineB w) w' v rows ∧ Below w.heap.size w w' := by
  have HBL := hide (bytes_len h).1
  have HH := hide h
  have HL := hide hl
  have HNE : Hid (b ≠ []) := fun e => by have := (bytes_len h).1; rw [e] at this; simp at this; omega
  obtain ⟨w2, hw2⟩ : ∃ w2, w2 = ((w.alloc (.cells #[.slice none 0 0] 22)).alloc (.cells #[.slice a n c] 23)).alloc (.cells #[.int .i64 4096] 3) := ⟨_, rfl⟩
  have hS := cutSt_new w (.slice a n c)
  rw [← hw2] at hS
  have HS := hide hS
  have HSZ : Hid (w2.heap.size = w.heap.size + 3) := by rw [hw2]; show _ = _; simp
  have HW2 := hide hw2
  have hn0 : ((n : Int) == 0) = false := beq_eq_false_iff_ne.2 (by omega)
  have hn0' : ¬ n = 0 := by omega
  clear h hl hS hw2
  refine (callsIn_wide (n := 3)).1 ?_
  refine callsIn_of_wp_marks Try.func20 rfl trivial ?_ rfl
  simp only [Try.ntmps20, List.size_toArray, List.length_cons, List.length_nil, Nat.reduceAdd, Nat.reduceSub, Array.replicate_succ, Array.replicate_zero, List.push_toArray, List.append_toArray, List.nil_append, List.cons_append]
  gi_wp2
  refine ⟨trivial, (callsIn_wide.2 (chunk_any a n c _)).mono ?_⟩
  rintro e w' ⟨rfl, rfl⟩
  rw [← unhide HW2]
  simp only [World.size_alloc]
  gi_wp2
  simp only [Nat.add_assoc, Nat.reduceAdd]
  have hsz := unhide HSZ
  refine wpIn_told rfl (by omega) (gf := 46) (lb := #[.pointer (some ⟨w.heap.size + 1, 0, none⟩), .pointer (some ⟨w.heap.size + 2, 0, none⟩)]) rfl trivial (enters_of Try.func46 (by kernel_rfl) rfl)
    (chunk_told (3 - 1) (by omega) n c a b w (unhide HBL) (unhide HL) (unhide HNE) (unhide HH) (w.heap.size + 1) w2 (unhide HS).bb (unhide HS).b1 (unhide HS).b2) (fun h k => h.trans k) (fun W l o o' hlo h1 h2 h3 => ⟨belowK_b (w := w2) (by omega) W l o o' hlo h1 h2 h3, World.putObj_heap_other (by omega), World.putObj_heap_other (by omega)⟩) (Below.refl _ _) (fun _ => rfl)
    (CutI w (.slice a n c)) (fun _ _ _ => False) (cutSt_own (by omega)) (fun _ _ _ _ _ h => h.elim) ⟨_, unhide HS⟩ (CutA w a n c) (fun x a' _ X Y row h _ _ => h) ?assign ?body ?done ?stop
  case assign =>
    intro l pre x W K hi hR hK
    have HI := hide hi
    have HR := hide hR
    have HK := hide hK
    clear hi hR hK
    dsimp only [Ck.enc]
    gi_wp2
    exact unhide HK _ _ ((KeepsOthers.refl _).from _) ⟨Below.refl _ _, rfl, rfl⟩ (unhide HI) ⟨unhide HR, rfl⟩
  case body =>
    rintro l pre x a' W ⟨v, hst⟩ ⟨hAt, rfl⟩ hlt
    clear hsz
    obtain ⟨va, vc, rfl⟩ := hst.form
    obtain ⟨vn, hvn⟩ : ∃ vn, vn = (pre.map Ck.bs).length := ⟨_, rfl⟩
    rw [← hvn] at hst
    have HLN : Hid ((pre.map Ck.bs).length ≤ 1048576) := by show _ ≤ _; rw [List.length_map]; have := unhide HL; omega
    clear hvn
    have HST := hide hst
    have HAT := hide hAt
    have HST2 := hide (hst.later ((Below.refl _ W).drew))
    have HBX : Hid (Bytes W.drew (.slice x.a x.n x.c) x.bs) := hAt.1.later (unhide HST2).bb
    have cR : W.drew.cell? ⟨w.heap.size, 0, none⟩ = some (.slice va vn vc) := (unhide HST2).bR.cell
    clear hst hAt
    gi_wp2
    refine wpIn_region_any (by kernel_rfl) ?_
    change wpAnyIn _ _ _ _ _ _ _ _ _ (World.drew _)
    refine wpAnyIn_ready (rs := [0, 1]) (by kernel_rfl) (by simp) ?_
    refine AllReadyIn.cons rfl (fun K hK => ?_) (AllReadyIn.cons rfl (fun K hK => ?_) AllReadyIn.nil)
    · go_simp
      refine hK _ _ ?_
      clear hK K
      refine wpAnyIn_ready (rs := [1]) (by kernel_rfl) (by simp) ?_
      refine AllReadyIn.cons rfl (fun K hK => ?_) AllReadyIn.nil
      go_simp
      refine hK _ _ ?_
      clear hK K
      refine wpAnyIn_ready (rs := [2]) (by kernel_rfl) (by simp) ?_
      refine AllReadyIn.cons rfl (fun K hK => ?_) AllReadyIn.nil
      go_simp
      refine ⟨trivial, ((callsIn_wide.2 (clone_any _ x.bs _ (unhide HBX) (by have := (unhide HAT).2; omega))).inRound l).mono ?_⟩
      rintro e w3 ⟨a3, n3, c3, rfl, hF⟩
      obtain ⟨v9, w9, hA⟩ := (unhide HST2).append hF (unhide HLN)
      obtain ⟨a9, m9, k9, e9⟩ : ∃ a9 m9 k9, v9 = .slice a9 m9 k9 := by obtain ⟨p, q, e⟩ := hA.st.form; exact ⟨_, _, _, e⟩
      subst e9
      have hrun := hA.run
      have c9 := hA.box.cell
      have f9 := hA.box.frozen
      have c3' := ((unhide HST2).later hF.1.2.2).bR.cell
      have c4' := (((unhide HST2).later hF.1.2.2).bR.alloc (.cells #[.slice a3 n3 c3] 23)).cell
      have HA := hide hA
      clear hF hA
      refine hK _ _ ?_
      clear hK K
      refine wpAnyIn_ready (rs := [3]) (by kernel_rfl) (by simp) ?_
      refine AllReadyIn.cons rfl (fun K hK => ?_) AllReadyIn.nil
      go_simp
      refine hK _ _ ?_
      clear hK K
      refine wpAnyIn_ready (rs := [4]) (by kernel_rfl) (by simp) ?_
      refine AllReadyIn.cons rfl (fun K hK => ?_) AllReadyIn.nil
      refine stepIn_append_run rfl (.tmp 13) (.tmp 16) 22 rfl _ _ (.slice a9 m9 k9) w9 rfl rfl hrun ?_
      refine hK _ _ ?_
      clear hK K
      refine wpAnyIn_ready (rs := [5]) (by kernel_rfl) (by simp) ?_
      refine AllReadyIn.cons rfl (fun K hK => ?_) AllReadyIn.nil
      go_simp
      refine hK _ _ ?_
      clear hK K
      refine wpAnyIn_done (by kernel_rfl) ?_ _
      exact cut_round (unhide HA)
    · go_simp
      refine hK _ _ ?_
      clear hK K
      refine wpAnyIn_ready (rs := [0, 2]) (by kernel_rfl) (by simp) ?_
      refine AllReadyIn.cons rfl (fun K hK => ?_) (AllReadyIn.cons rfl (fun K hK => ?_) AllReadyIn.nil)
      · go_simp
        refine hK _ _ ?_
        clear hK K
        refine wpAnyIn_ready (rs := [2]) (by kernel_rfl) (by simp) ?_
        refine AllReadyIn.cons rfl (fun K hK => ?_) AllReadyIn.nil
        go_simp
        refine ⟨trivial, ((callsIn_wide.2 (clone_any _ x.bs _ (unhide HBX) (by have := (unhide HAT).2; omega))).inRound l).mono ?_⟩
        rintro e w3 ⟨a3, n3, c3, rfl, hF⟩
        obtain ⟨v9, w9, hA⟩ := (unhide HST2).append hF (unhide HLN)
        obtain ⟨a9, m9, k9, e9⟩ : ∃ a9 m9 k9, v9 = .slice a9 m9 k9 := by obtain ⟨p, q, e⟩ := hA.st.form; exact ⟨_, _, _, e⟩
        subst e9
        have hrun := hA.run
        have c9 := hA.box.cell
        have f9 := hA.box.frozen
        have c3' := ((unhide HST2).later hF.1.2.2).bR.cell
        have c4' := (((unhide HST2).later hF.1.2.2).bR.alloc (.cells #[.slice a3 n3 c3] 23)).cell
        have HA := hide hA
        clear hF hA
        refine hK _ _ ?_
        clear hK K
        refine wpAnyIn_ready (rs := [3]) (by kernel_rfl) (by simp) ?_
        refine AllReadyIn.cons rfl (fun K hK => ?_) AllReadyIn.nil
        go_simp
        refine hK _ _ ?_
        clear hK K
        refine wpAnyIn_ready (rs := [4]) (by kernel_rfl) (by simp) ?_
        refine AllReadyIn.cons rfl (fun K hK => ?_) AllReadyIn.nil
        refine stepIn_append_run rfl (.tmp 13) (.tmp 16) 22 rfl _ _ (.slice a9 m9 k9) w9 rfl rfl hrun ?_
        refine hK _ _ ?_
        clear hK K
        refine wpAnyIn_ready (rs := [5]) (by kernel_rfl) (by simp) ?_
        refine AllReadyIn.cons rfl (fun K hK => ?_) AllReadyIn.nil
        go_simp
        refine hK _ _ ?_
        clear hK K
        refine wpAnyIn_done (by kernel_rfl) ?_ _
        exact cut_round (unhide HA)
      · go_simp
        refine ⟨trivial, ((callsIn_wide.2 (clone_any _ x.bs _ (unhide HBX) (by have := (unhide HAT).2; omega))).inRound l).mono ?_⟩
        rintro e w3 ⟨a3, n3, c3, rfl, hF⟩
        obtain ⟨v9, w9, hA⟩ := (unhide HST2).append hF (unhide HLN)
        obtain ⟨a9, m9, k9, e9⟩ : ∃ a9 m9 k9, v9 = .slice a9 m9 k9 := by obtain ⟨p, q, e⟩ := hA.st.form; exact ⟨_, _, _, e⟩
        subst e9
        have hrun := hA.run
        have c9 := hA.box.cell
        have f9 := hA.box.frozen
        have c3' := ((unhide HST2).later hF.1.2.2).bR.cell
        have c4' := (((unhide HST2).later hF.1.2.2).bR.alloc (.cells #[.slice a3 n3 c3] 23)).cell
        have HA := hide hA
        clear hF hA
        refine hK _ _ ?_
        clear hK K
        refine wpAnyIn_ready (rs := [0, 3]) (by kernel_rfl) (by simp) ?_
        refine AllReadyIn.cons rfl (fun K hK => ?_) (AllReadyIn.cons rfl (fun K hK => ?_) AllReadyIn.nil)
        · go_simp
          refine hK _ _ ?_
          clear hK K
          refine wpAnyIn_ready (rs := [3]) (by kernel_rfl) (by simp) ?_
          refine AllReadyIn.cons rfl (fun K hK => ?_) AllReadyIn.nil
          go_simp
          refine hK _ _ ?_
          clear hK K
          refine wpAnyIn_ready (rs := [4]) (by kernel_rfl) (by simp) ?_
          refine AllReadyIn.cons rfl (fun K hK => ?_) AllReadyIn.nil
          refine stepIn_append_run rfl (.tmp 13) (.tmp 16) 22 rfl _ _ (.slice a9 m9 k9) w9 rfl rfl hrun ?_
          refine hK _ _ ?_
          clear hK K
          refine wpAnyIn_ready (rs := [5]) (by kernel_rfl) (by simp) ?_
          refine AllReadyIn.cons rfl (fun K hK => ?_) AllReadyIn.nil
          go_simp
          refine hK _ _ ?_
          clear hK K
          refine wpAnyIn_done (by kernel_rfl) ?_ _
          exact cut_round (unhide HA)
        · go_simp
          refine hK _ _ ?_
          clear hK K
          refine wpAnyIn_ready (rs := [0]) (by kernel_rfl) (by simp) ?_
          refine AllReadyIn.cons rfl (fun K hK => ?_) AllReadyIn.nil
          go_simp
          refine hK _ _ ?_
          clear hK K
          refine wpAnyIn_ready (rs := [4]) (by kernel_rfl) (by simp) ?_
          refine AllReadyIn.cons rfl (fun K hK => ?_) AllReadyIn.nil
          refine stepIn_append_run rfl (.tmp 13) (.tmp 16) 22 rfl _ _ (.slice a9 m9 k9) w9 rfl rfl hrun ?_
          refine hK _ _ ?_
          clear hK K
          refine wpAnyIn_ready (rs := [5]) (by kernel_rfl) (by simp) ?_
          refine AllReadyIn.cons rfl (fun K hK => ?_) AllReadyIn.nil
          go_simp
          refine hK _ _ ?_
          clear hK K
          refine wpAnyIn_done (by kernel_rfl) ?_ _
          exact cut_round (unhide HA)
  case done =>
    rintro D ys W hD hS ⟨v, hst⟩ hK
    have hD' : w.heap.size ≤ D := by omega
    clear hsz hD
    obtain ⟨va, vc, rfl⟩ := hst.form
    obtain ⟨vn, hvn⟩ : ∃ vn, vn = (ys.map Ck.bs).length := ⟨_, rfl⟩
    rw [← hvn] at hst
    clear hvn
    have HST := hide hst
    have HKD := hide hK
    have HCU := hide hS
    have cR := hst.bR.cell
    clear hst hS hK
    gi_wp2
    have hst' := (unhide HST).putD (.deferred none) hD' (unhide HKD) rfl
    refine ⟨by simp, .inl ⟨_, _, rfl, run_takeDeferred (unhide HKD), ?_⟩⟩
    refine ⟨.slice va vn vc, ?_, _, ys.map Ck.bs, rfl, unhide HCU, hst'.mine, hst'.bb⟩
    simp [results, Try.f20, go_sem]
  case stop =>
    rintro D c pre W hD _ h hK
    exact h.elim

theorem landCut_none (a : Option Addr) (c : Nat) (w : World) : Calls Try.prog 20 #[.slice a 0 c] w fun e w' => ∃ v rows, e = .returned v ∧ CutIs [] rows ∧ ListAt (MineB w) w' v rows ∧ Below w.heap.size w w' := by
  go_enter Try.func20, Try.ntmps20
  go_wp2
  go_ret
  have hb : Below w.heap.size w (w.alloc (.cells #[] 5)) := (Below.refl _ w).alloc (Nat.le_refl _) _
  refine ⟨_, [[]], rfl, ⟨[], [], rfl, rfl, fun x hx => (by cases hx), by decide, .inr rfl⟩, .inr ⟨w.heap.size + 1, 0, 1, rfl, Nat.le_refl _, fun i x hx => ?_⟩, hb.alloc (by simp) _⟩
  match i, hx with
  | 0, hx =>
    cases hx
    refine ⟨.slice (some ⟨w.heap.size, 0, none⟩) 0 0, ?_, .inr ⟨⟨w.heap.size, 0, none⟩, 0, rfl, Nat.le_refl _, by decide, fun j v hv => (by cases hv)⟩, fun h => absurd rfl h, fun ad n c e j hj => by cases hj⟩
    have h := heap_alloc_new (w.alloc (.cells #[] 5)) (.cells #[.slice (some ⟨w.heap.size, 0, none⟩) 0 0] 23)
    rw [World.size_alloc] at h
    exact cell_of_row _ _ 0 _ _ _ h

theorem landCut_any (a : Option Addr) (n c : Nat) (b : List UInt8) (w : World) (h : Bytes w (.slice a n c) b) (hl : n ≤ 1048576) : Calls Try.prog 20 #[.slice a n c] w fun e w' => ∃ v rows, e = .returned v ∧ CutIs b rows ∧ ListAt (MineB w) w' v rows ∧ Below w.heap.size w w' := by
  by_cases h0 : n = 0
  · subst h0
    have hb : b = [] := List.eq_nil_of_length_eq_zero (bytes_len h).1
    subst hb
    exact landCut_none a c w
  · exact landCut_some a n c b w h hl (by omega)
end Go.Proofs.Ytbbglgfgelnncaa
