/- JournalAgain, walked, where what comes in is not too great. -/
import Derived.Test.YtflfiobicapopaaJourFmt
namespace Go.Proofs.Ytflfiobicapopaa
open Go.RowKit

section
variable {w W W' : World} {L : List (Value × Thing)} {M : List (Nat × Obj)} {p g : Nat} {A B : AD} {h : HeadD} {l xs : List (List (List UInt8))} {v : Value}
/-- A block of ours has grown, where it lay or anew. -/
theorem Kj.grow1 {gw g' : Nat} {o o' : Obj} (h : Kj w W L ((gw, o) :: M) p A) (hg : W.grownBy W' (some gw)) (h' : g' = gw ∨ W.heap.size ≤ g') (ho : W'.heap[g']? = some o') : Kj w W' L ((g', o') :: M) p A := by
  obtain ⟨D, v, F, h1, h2, h3, h4, h5, h6⟩ := h.dsk
  have hlt := h.lt
  have hw := h.hi (gw, o) (List.mem_cons_self ..)
  have hn := h3 (gw, o) (List.mem_cons_self ..)
  have nd := List.nodup_cons.1 (show (gw :: M.map Prod.fst).Nodup from h.nd)
  have hne : ∀ q ∈ M, q.1 ≠ gw := fun q hq e => nd.1 (List.mem_map.2 ⟨q, hq, e⟩)
  have blk : ∀ k, k < W.heap.size → k ≠ gw → W'.heap[k]? = W.heap[k]? := fun k hk e => hg.block k hk (fun x => e (Option.some.inj x))
  refine ⟨⟨hg.os.trans h.bb.os, hg.tape.trans h.bb.tape, hg.output.trans h.bb.output, Nat.le_trans h.bb.size hg.size, fun k hk => (blk k (Nat.lt_of_lt_of_le hk h.bb.size) (fun e => by have hw' : w.heap.size ≤ gw := hw; omega)).trans (h.bb.block k hk)⟩, fun q hq => ?_, ?_, fun q hq => ?_, D, v, F, h1.kept hg.size (fun k hk => blk k (h1.lt k hk) (fun e => hn.1 (e ▸ hk))), h2, fun q hq => ?_, fun k hk => ⟨Nat.lt_of_lt_of_le (h4 k hk).1 hg.size, (h4 k hk).2⟩, h5, fun q hq => (h6 q hq).agree (fun k hk => blk k (h4 k hk).1 (fun e => hn.2 (e ▸ hk))) fun _ hk => hk⟩
  · rcases List.mem_cons.1 hq with e | e
    · rw [e]; exact ho
    · exact (blk _ (hlt q (List.mem_cons_of_mem _ e)) (hne q e)).trans (h.ce q (List.mem_cons_of_mem _ e))
  · refine List.nodup_cons.2 ⟨fun hm => ?_, nd.2⟩
    obtain ⟨q, hq, e⟩ := List.mem_map.1 hm
    have e' : q.1 = g' := e
    rcases h' with r | r
    · exact hne q hq (e'.trans r)
    · have := hlt q (List.mem_cons_of_mem _ hq); omega
  · rcases List.mem_cons.1 hq with e | e
    · rw [e]; rcases h' with r | r
      · show w.heap.size ≤ g'; rw [r]; exact hw
      · exact Nat.le_trans h.bb.size r
    · exact h.hi q (List.mem_cons_of_mem _ e)
  · rcases List.mem_cons.1 hq with e | e
    · rw [e]; rcases h' with r | r
      · show ¬ D g' ∧ ¬ F g'; rw [r]; exact hn
      · exact ⟨fun hd => by have := h1.lt _ hd; have r' : W.heap.size ≤ g' := r; omega, fun hf => by have := (h4 _ hf).1; have r' : W.heap.size ≤ g' := r; omega⟩
    · exact h3 q (List.mem_cons_of_mem _ e)
/-- A new block. -/
theorem Kj.fresh {g' : Nat} {o' : Obj} (h : Kj w W L M p A) (hb : Below W.heap.size W W') (h' : W.heap.size ≤ g') (ho : W'.heap[g']? = some o') : Kj w W' L ((g', o') :: M) p A := by
  have hl := h.later hb
  obtain ⟨D, v, F, h1, h2, h3, h4, h5, h6⟩ := h.dsk
  have hlt := h.lt
  refine ⟨hl.bb, fun q hq => ?_, ?_, fun q hq => ?_, D, v, F, h1.kept hb.size fun k hk => hb.block k (h1.lt k hk), h2, fun q hq => ?_, fun k hk => ⟨Nat.lt_of_lt_of_le (h4 k hk).1 hb.size, (h4 k hk).2⟩, h5, fun q hq => (h6 q hq).agree (fun k hk => hb.block k (h4 k hk).1) fun _ hk => hk⟩
  · rcases List.mem_cons.1 hq with e | e
    · rw [e]; exact ho
    · exact hl.ce q e
  · refine List.nodup_cons.2 ⟨fun hm => ?_, h.nd⟩
    obtain ⟨q, hq, e⟩ := List.mem_map.1 hm
    have := hlt q hq
    have e' : q.1 = g' := e
    omega
  · rcases List.mem_cons.1 hq with e | e
    · rw [e]; exact Nat.le_trans h.bb.size h'
    · exact h.hi q e
  · rcases List.mem_cons.1 hq with e | e
    · rw [e]; exact ⟨fun hd => by have := h1.lt _ hd; have r' : W.heap.size ≤ g' := h'; omega, fun hf => by have := (h4 _ hf).1; have r' : W.heap.size ≤ g' := h'; omega⟩
    · exact h3 q e
/-- A block of ours is laid among what is kept. -/
theorem Kj.toL {gw : Nat} {o : Obj} {t : Thing} (h : Kj w W L ((gw, o) :: M) p A) (hQ : ∀ F : Nat → Prop, (∀ k, k < w.heap.size → F k) → t.In (fun k => F k ∨ k = gw) W v) : Kj w W ((v, t) :: L) M p A := by
  obtain ⟨D, vd, F, h1, h2, h3, h4, h5, h6⟩ := h.dsk
  have hlt := h.lt
  have nd := List.nodup_cons.1 (show (gw :: M.map Prod.fst).Nodup from h.nd)
  have hn := h3 (gw, o) (List.mem_cons_self ..)
  refine ⟨h.bb, fun q hq => h.ce q (List.mem_cons_of_mem _ hq), nd.2, fun q hq => h.hi q (List.mem_cons_of_mem _ hq), D, vd, fun k => F k ∨ k = gw, h1, h2, fun q hq => ⟨(h3 q (List.mem_cons_of_mem _ hq)).1, fun hf => ?_⟩, fun k hk => ?_, fun k hk => .inl (h5 k hk), fun q hq => ?_⟩
  · rcases hf with hf | hf
    · exact (h3 q (List.mem_cons_of_mem _ hq)).2 hf
    · exact nd.1 (List.mem_map.2 ⟨q, hq, hf⟩)
  · rcases hk with hk | hk
    · exact h4 k hk
    · subst hk; exact ⟨hlt (k, o) (List.mem_cons_self ..), hn.1⟩
  · rcases List.mem_cons.1 hq with e | e
    · rw [e]; exact hQ F h5
    · exact (h6 q e).agree (fun _ _ => rfl) fun _ hk => .inl hk
/-- What is appended, one by one, beside a journal. -/
def Wt (w W : World) (g p : Nat) (A : AD) (h : HeadD) (l : List (List (List UInt8))) (v : Value) (xs : List (List (List UInt8))) : Prop :=
  (v = .slice none 0 0 ∧ xs = [] ∧ Jr w W [] [] g p A h l) ∨
  ∃ gw o vs, v.ownBlock = some gw ∧ W.ownsRow w.heap.size 23 1 v xs.length vs ∧ (∀ (i : Nat) x, xs[i]? = some x → ∃ u, vs[i]? = some u ∧ RowsAt w u x) ∧ Jr w W [] [(gw, o)] g p A h l
theorem Wt.opens (H : Wt w W g p A h l v xs) : ∃ M, Jr w W [] M g p A h l ∧ ∀ W' A' h' l', Jr w W' [] M g p A' h' l' → Wt w W' g p A' h' l' v xs := by
  rcases H with ⟨h1, h2, h3⟩ | ⟨gw, o, vs, h1, h2, h3, h4⟩
  · exact ⟨_, h3, fun W' A' h' l' hJ => .inl ⟨h1, h2, hJ⟩⟩
  · refine ⟨_, h4, fun W' A' h' l' hJ => .inr ⟨gw, o, vs, h1, row_keeps h2 fun k hk => ?_, h3, hJ⟩⟩
    rw [h1] at hk
    cases hk
    have e1 := h4.kj.ce (gw, o) (List.mem_cons_of_mem _ (List.mem_cons_self ..))
    have e2 := hJ.kj.ce (gw, o) (List.mem_cons_of_mem _ (List.mem_cons_self ..))
    exact e2.trans e1.symm
theorem Wt.form (H : Wt w W g p A h l v xs) : ∃ a c, v = .slice a xs.length c := by
  rcases H with ⟨h1, h2, _⟩ | ⟨gw, o, vs, _, h2, _⟩
  · exact ⟨none, 0, by rw [h1, h2]; rfl⟩
  · rcases h2.2 with ⟨rfl, h0⟩ | ⟨g, cap, cur, rfl, _⟩
    · exact ⟨_, _, by rw [h0]⟩
    · exact ⟨_, _, rfl⟩
/-- It is kept. -/
theorem Wt.done (H : Wt w W g p A h l v xs) : Jr w W [(v, Thing.bats xs)] [] g p A h l := by
  rcases H with ⟨h1, h2, h3⟩ | ⟨gw, o, vs, h1, h2, h3, h4⟩
  · exact ⟨h3.kj.arg v (.bats xs) (fun F _ => by subst h1 h2; exact .inl ⟨⟨none, 0, rfl⟩, rfl⟩), h3.run⟩
  · refine ⟨(h4.kj.perm (List.Perm.swap _ _ _)).toL fun F hF => ?_, h4.run⟩
    rcases h2.2 with ⟨rfl, h0⟩ | ⟨g2, cap, cur, rfl, q1, q2, q4, _⟩
    · cases h1
    · have eg : g2 = gw := by simpa [Value.ownBlock] using h1
      subst eg
      refine .inr ⟨g2, 0, cap, rfl, q4, .inr rfl, fun i x hx => ?_⟩
      obtain ⟨u, e1, e2⟩ := h3 i x hx
      have hc := h2.cells (g := g2) rfl _ _ e1
      rw [Addr.add_mid] at hc
      exact ⟨u, hc, (rows_in (F := fun k => k < w.heap.size) e2 fun _ hk => hk).agree (fun k hk => h4.kj.bb.block k hk) fun k hk => .inl (hF k hk)⟩
/-- 'want = append(want, rows)'. -/
theorem wpList_append_want {ops : Array Oper} {rest : List Oper} {op : Oper} {a : Act} {Q : Exit → Act → World → Prop}
    (hg : op.guard = none) (s x : Operand) (hop : op.op = Op.call { callee := Callee.builtin Builtin.append, args := #[s, x], argTypes := #[33, 33] })
    (v u : Value) (xs : List (List (List UInt8))) (rows : List (List UInt8)) (b1 cap : Nat) (hsv : a.eval s = v) (hS : Wt w W g p A h l v xs) (hx : a.eval x = .slice (some ⟨b1, 0, none⟩) 1 cap)
    (h0 : W.cell? ⟨b1, 0, none⟩ = some u) (hu : RowsAt w u rows) (hl : xs.length ≤ 1048576)
    (hK : ∀ v' W', Wt w W' g p A h l v' (xs ++ [rows]) → wpList Try.prog ops Q rest (a.put op.dst v') W') :
    wpList Try.prog ops Q (op :: rest) a W := by
  obtain ⟨ti, hti, hy0, hy1, hy2⟩ := info_parts infoRows0
  have hone : u.oneCell' = true := by obtain ⟨_, _, rfl, _⟩ := hu.form; rfl
  have main : ∀ vs, W.ownsRow w.heap.size 23 1 v xs.length vs → (∀ (i : Nat) x, xs[i]? = some x → ∃ u, vs[i]? = some u ∧ RowsAt w u x) → (∀ (v' : Value) (W' : World) (g' : Nat) (o' : Obj), W.grownBy W' v.ownBlock → (v'.ownBlock = v.ownBlock ∨ v'.ownBlock = some W.heap.size) → v'.ownBlock = some g' → W'.heap[g']? = some o' → Jr w W' [] [(g', o')] g p A h l) → w.heap.size ≤ W.heap.size → wpList Try.prog ops Q (op :: rest) a W := fun vs o1 o2 hJ hsz => by
    have hwl : vs.length = xs.length := by have := o1.1; omega
    refine wpList_append_own_at W hg s x 33 hop w.heap.size 23 ti (.slice none 0 0) 1 24 Try.underlying33 hti hy0 hy1 hy2 rfl (by decide) v _ _ hsv o1 ⟨b1, 0, none⟩ 1 cap [u] hx rfl (fun j u' hj => by
      match j, hj with
      | 0, hj => cases hj; exact h0) (fun u' hu' => by rw [List.mem_singleton] at hu'; rw [hu']; exact hone) (by unfold maxLen; omega) (by omega) hsz ?_
    intro v' W' r1 r2 _ r3
    have r1' := r1
    rcases r1.2 with ⟨_, e0⟩ | ⟨g', cap', cur, ev, q1, q2, _⟩
    · omega
    · refine hK v' W' (.inr ⟨g', _, vs ++ [u], by rw [ev]; rfl, by rw [List.length_append, List.length_singleton]; exact r1', fun i x hx => ?_, hJ v' W' g' _ r2 r3 (by rw [ev]; rfl) q2⟩)
      by_cases hi : i < xs.length
      · rw [List.getElem?_append_left hi] at hx
        obtain ⟨u', e1, e2⟩ := o2 i x hx
        exact ⟨u', by rw [List.getElem?_append_left (by omega)]; exact e1, e2⟩
      · have hi2 : i = xs.length := by have := (List.getElem?_eq_some_iff.1 hx).1; rw [List.length_append, List.length_singleton] at this; omega
        rw [hi2, List.getElem?_append_right (Nat.le_refl _), Nat.sub_self] at hx
        cases hx
        exact ⟨u, by rw [hi2, ← hwl, List.getElem?_append_right (Nat.le_refl _), Nat.sub_self]; rfl, hu⟩
  rcases hS with ⟨h1, h2, h3⟩ | ⟨gw, o, vs, h1, h2, h3, h4⟩
  · subst h1 h2
    refine main [] (World.ownsRow_nil _ _ _ _) (fun i x hx => by cases hx) (fun v' W' g' o' r2 r3 e ho => ?_) h3.kj.bb.size
    have eg : W.heap.size ≤ g' := by
      rcases r3 with r | r
      · rw [e] at r; cases r
      · rw [e] at r; cases r; exact Nat.le_refl _
    exact ⟨(h3.kj.fresh ⟨r2.os, r2.tape, r2.output, r2.size, fun k hk => r2.block k hk (by intro x; cases x)⟩ eg ho).perm (List.Perm.swap _ _ _), h3.run⟩
  · refine main vs h2 h3 (fun v' W' g' o' r2 r3 e ho => ?_) h4.kj.bb.size
    rw [h1] at r2 r3
    have eg : g' = gw ∨ W.heap.size ≤ g' := by
      rcases r3 with r | r
      · rw [e] at r; cases r; exact .inl rfl
      · rw [e] at r; cases r; exact .inr (Nat.le_refl _)
    exact ⟨((h4.kj.perm (List.Perm.swap _ _ _)).grow1 r2 eg ho).perm (List.Perm.swap _ _ _), h4.run⟩
/-- First bytes of what is kept. -/
theorem Kj.pre (h : Kj w W L M p A) {a : Option Addr} {n c m : Nat} {b : List UInt8} (hm : (.slice a n c, Thing.bytes b) ∈ L) (hle : m ≤ n) : Kj w W ((.slice a m c, Thing.bytes (b.take m)) :: L) M p A := by
  obtain ⟨D, v, F, h1, h2, h3, h4, h5, h6⟩ := h.dsk
  refine ⟨h.bb, h.ce, h.nd, h.hi, D, v, F, h1, h2, h3, h4, h5, fun q hq => ?_⟩
  rcases List.mem_cons.1 hq with e | e
  · rw [e]
    obtain ⟨b1, b2⟩ : BytesIn F W (.slice a n c) b := h6 _ hm
    obtain ⟨hl, _⟩ := bytes_len b1
    refine ⟨b1.take hle (by omega), fun hne k hk => b2 (fun e0 => hne (by rw [e0]; exact List.take_nil)) k (by cases a with | none => cases hk | some a => exact hk)⟩
  · exact h6 q e
end

theorem row_oneJ {W : World} {v : Value} {x : List UInt8} {t : TypeId} (hb : Bytes W v x) : RowsAt (W.alloc (.cells #[v] t)) (.slice (some ⟨W.heap.size, 0, none⟩) 1 1) [x] := by
  refine .inr ⟨W.heap.size, 0, 1, rfl, Nat.le_refl _, fun i y hy => ?_⟩
  match i, hy with
  | 0, hy =>
    cases hy
    exact ⟨v, cell_of_row _ _ 0 _ _ _ (heap_alloc_new W _), hb.alloc _⟩
theorem laterS {h : HeadD} (h1 : h.s + 1 < 18446744073709551616) : h.later.next.s = h.s + 1 := Nat.mod_eq_of_lt h1
theorem laterE {h : HeadD} (h1 : h.e + 1 < 18446744073709551616) : h.later.next.e = h.e + 1 := Nat.mod_eq_of_lt h1
/-- Torn bytes behind what counts, and bytes in the other segment: what counts is the same. -/
theorem again_st {A : AD} {h : HeadD} {l : List (List (List UInt8))} (R : Run A h l) (h0 : h.l = 0) (hc : A.calls = -1) (torn other : List UInt8) (ok : okRows [torn]) (k : Nat) (hk : k < (bput [torn]).length) (fit : (((bputs l).length + (bput [torn]).length + other.length : Nat) : Int) ≤ A.cap) :
    apE A ((bput [torn]).take k).length = 0 ∧ apE (apD A 0 ((bput [torn]).take k)) other.length = 0 ∧ St (apD (apD A 0 ((bput [torn]).take k)) 1 other) h l ∧ (apD (apD A 0 ((bput [torn]).take k)) 1 other).calls = -1 := by
  have hx0 : A.x 0 = bputs l := by have := R.here; rwa [h0] at this
  have hx1 : A.x 1 = [] := by have := R.other; rwa [h0] at this
  obtain ⟨T, hT⟩ : ∃ T, (bput [torn]).take k = T := ⟨_, rfl⟩
  have hTl : T.length ≤ (bput [torn]).length := by rw [← hT, List.length_take]; omega
  obtain ⟨x, hx⟩ := (bput_cut ok k).resolve_left (by omega)
  rw [hT] at hx ⊢
  have f1 : ¬ A.cap < ((A.x 0).length : Int) + (A.x 1).length + T.length := by rw [hx0, hx1, List.length_nil]; omega
  have c1 : ¬ A.calls = 0 := by rw [hc]; decide
  have e1 : apE A T.length = 0 := by simp only [apE, R.live, if_neg f1, if_neg c1]; rfl
  have d1 : apD A 0 T = { A.tick with x := upd A.x 0 (A.x 0 ++ T) } := by simp only [apD, R.live, if_neg f1, if_neg c1]; rfl
  obtain ⟨B, hB⟩ : ∃ B, apD A 0 T = B := ⟨_, rfl⟩
  rw [hB]
  rw [hB] at d1
  have bd : B.dead = false := by rw [d1]; exact R.live
  have bc : B.calls = -1 := by rw [d1]; exact tick_calm hc
  have bcap : B.cap = A.cap := by rw [d1]; rfl
  have bx : B.x = upd A.x 0 (A.x 0 ++ T) := by rw [d1]
  have bs : B.safe = A.safe := by rw [d1]; rfl
  have bsh : B.sh = A.sh := by rw [d1]; rfl
  have bsf : B.sf = A.sf := by rw [d1]; rfl
  have b0 : B.x 0 = bputs l ++ T := by rw [bx, upd_same, hx0]
  have b1 : B.x 1 = [] := by rw [bx, upd_other _ _ (by decide), hx1]
  have f2 : ¬ B.cap < ((B.x 0).length : Int) + (B.x 1).length + other.length := by rw [b0, b1, List.length_nil, List.length_append, bcap]; omega
  have c2 : ¬ B.calls = 0 := by rw [bc]; decide
  have e2 : apE B other.length = 0 := by simp only [apE, bd, if_neg f2, if_neg c2]; rfl
  have d2 : apD B 1 other = { B.tick with x := upd B.x 1 (B.x 1 ++ other) } := by simp only [apD, bd, if_neg f2, if_neg c2]; rfl
  obtain ⟨C, hC⟩ : ∃ C, apD B 1 other = C := ⟨_, rfl⟩
  rw [hC]
  rw [hC] at d2
  have cx : C.x = upd B.x 1 (B.x 1 ++ other) := by rw [d2]
  have cs : C.safe = A.safe := by rw [d2]; exact bs
  have x0 : C.x 0 = bputs l ++ T := by rw [cx, upd_other _ _ (by decide), b0]
  have x1 : C.x 1 = other := by rw [cx, upd_same, b1, List.nil_append]
  have F := R.full
  have fs0 : A.safe 0 = (bputs l).length := by rw [F 0 (by decide), hx0]
  have fs1 : A.safe 1 = 0 := by rw [F 1 (by decide), hx1]; rfl
  refine ⟨e1, e2, ⟨by rw [d2]; exact bd, R.sg.congr (fun i _ => by rw [d2]; show B.sh i = _; rw [bsh]) (fun i _ => by rw [d2]; show B.sf i = _; rw [bsf]), R.okr, ⟨T, x, by rw [h0]; exact x0, hx⟩, by rw [h0, cs, fs0]; exact Nat.le_refl _, fun i hi => ?_⟩, by rw [d2]; exact tick_calm bc⟩
  rcases (show i = 0 ∨ i = 1 by omega) with rfl | rfl
  · rw [cs, fs0, x0, List.length_append]; omega
  · rw [cs, fs1]; exact Nat.zero_le _

set_option maxRecDepth 100000 in
set_option maxHeartbeats 16000000 in
theorem journalAgain_any (ls : List (List (List UInt8))) (ua : Option Addr) (n uc : Nat) (ta : Option Addr) (tn tc : Nat) (torn : List UInt8) (oa : Option Addr) (on oc : Nat) (other : List UInt8) (tm : Nat) (w : World) (h : BatchesAt w (.slice ua n uc) ls) (hn : ls.length = n) (hl : n ≤ 1048576) (hw : weight ls ≤ 1048576) (ht : Bytes w (.slice ta tn tc) torn) (ho : Bytes w (.slice oa on oc) other) (htn : tn ≤ 1048576) (hon : on ≤ 1048576) (hm : tm ≤ 255) :
    Calls Try.prog 4 #[.slice ua n uc, .slice ta tn tc, .slice oa on oc, .int .u8 ((tm : Nat) : Int)] w fun x w' => x = .returned (.bool true) ∧ Below w.heap.size w w' := by
  have HH := hide h
  have HN := hide hn
  have HW := hide hw
  have HR : Hid (∀ x ∈ ls, x.length ≤ 140737488355328) := fun x hx => by have := weight_mem hx; omega
  have HT := hide ht
  have HO := hide ho
  have HTL := hide (bytes_len ht).1
  have HOL := hide (bytes_len ho).1
  clear h hn hw ht ho
  go_enter Try.func4, Try.ntmps4
  go_wp2_with fail
  refine (low_few _ ls _ (unhide HH) (by have := unhide HN; omega) (by have := unhide HW; omega) (unhide HR)).mono ?_
  rintro e w2 ⟨⟨b, rfl, hiff⟩, rfl⟩
  have HI := hide hiff
  clear hiff
  cases b
  case false =>
    go_wp2_with fail
    refine (jawake_any _).mono ?_
    rintro x W3 ⟨rfl, hb⟩
    have HB := hide hb
    clear hb
    go_wp2_with fail
    go_ret
    exact ⟨rfl, unhide HB⟩
  by_cases h10 : n ≤ 10
  case neg =>
    have hd10 : decide ((n : Int) > 10) = true := decide_eq_true (by omega)
    clear h10
    go_wp2_with fail
    refine (jawake_any _).mono ?_
    rintro x W3 ⟨rfl, hb⟩
    have HB := hide hb
    clear hb
    go_wp2_with fail
    go_ret
    exact ⟨rfl, unhide HB⟩
  have hd10 : decide ((n : Int) > 10) = false := decide_eq_false (by omega)
  have hws : IntKind.i64.wrap ((tn : Int) + (on : Int)) = (tn : Int) + (on : Int) := by rw [IntKind.wrap_i64]; omega
  by_cases h300 : tn + on ≤ 300
  case neg =>
    have hd300 : decide ((tn : Int) + (on : Int) > 300) = true := decide_eq_true (by omega)
    clear h300
    go_wp2_with fail
    refine (jawake_any _).mono ?_
    rintro x W3 ⟨rfl, hb⟩
    have HB := hide hb
    clear hb
    go_wp2_with fail
    go_ret
    exact ⟨rfl, unhide HB⟩
  have hd300 : decide ((tn : Int) + (on : Int) > 300) = false := decide_eq_false (by omega)
  have HW3 : Hid (weight ls ≤ 3000) := ((unhide HI).1 rfl).2
  have H300 := hide h300
  clear HI h300
  go_upto_region 3 with fail
  clear hd10 hd300 hws
  go_wp2_with fail
  refine (made_any (Below.refl _ w2) 60000 (by decide) (by decide)).mono ?_
  rintro x W3 ⟨p, g, A0, rfl, hJ, hc, hp⟩
  have HJ0 := hide hJ
  have HC0 := hide hc
  have HP0 := hide hp
  clear hJ hc hp
  go_wp2_with fail
  go_loopw [12, 49] (fun wv i W => ∃ (j : Nat) (A : AD) (l : List (List (List UInt8))), j ≤ n ∧ i = .int .i64 j ∧ Wt w2 W g p A ⟨2, 1, 0⟩ l wv l ∧ A.calls = -1 ∧ A.cap = 60000 ∧ (bputs l).length ≤ 9 * weight (ls.take j) + 11 * j ∧ l.length ≤ j) (fun _ i _ => n - (intOf i).toNat)
  case atStart => exact ⟨0, A0, [], by omega, rfl, .inl ⟨rfl, rfl, unhide HJ0⟩, unhide HC0, unhide HP0, Nat.zero_le _, Nat.zero_le _⟩
  case round =>
    obtain ⟨j, A, l, hj, rfl, hS, hc, hp, hb, hlj⟩ := hrel
    obtain ⟨wa, wc', hwv⟩ := hS.form
    subst hwv
    have HS := hide hS
    have HC := hide hc
    have HP := hide hp
    have HBL := hide hb
    have HLJ := hide hlj
    clear hS hc hp hb hlj HJ0 HC0 HP0
    by_cases hlt : j < n
    · obtain ⟨rows, hx⟩ := some_get (xs := ls) (j := j) (by have := unhide HN; omega)
      obtain ⟨b1, o1, v1, e1, x1, x3⟩ := (unhide HH).at hx
      subst e1
      obtain ⟨d1, k1, ed1, _⟩ := x3.form
      subst ed1
      obtain ⟨M, hJ, back⟩ := (unhide HS).opens
      have x1' : wr.cell? ⟨b1, o1 + j, none⟩ = some (.slice d1 rows.length k1) := (hJ.kj.bb.cell (p := ⟨b1, o1 + j, none⟩) (World.block_lt_of_cell? _ _ x1)).trans x1
      have HJ := hide hJ
      have HBK := hide back
      have i0 : (0 : Int) ≤ (j : Int) := by omega
      have i1 : (j : Int) < (n : Int) := by omega
      have X3 := hide x3
      have HXT : Hid ((bputs l).length + (bput rows).length ≤ 9 * weight (ls.take (j + 1)) + 11 * (j + 1) ∧ 9 * weight (ls.take (j + 1)) ≤ 27000) := by
        have h1 := weight_take ls hx
        have h2 := weight_le ls (j + 1)
        have h3 := unhide HW3
        have h4 := unhide HBL
        rw [bput_lenJ]
        constructor
        · omega
        · omega
      clear x3 hx hJ back HS x1
      generalize rows.length = rn at *
      go_wp2_with fail
      by_cases hbad : bputErr rows = 0
      · have ok := bputErr_zero.1 hbad
        refine (jrAppend_fit (unhide HJ) (unhide HC) _ rows ((unhide X3).later (unhide HJ).kj.bb) ok (by rw [unhide HP]; have := unhide HXT; omega)).mono ?_
        rintro x W4 ⟨B, rfl, hcap, hcalls, hJ4⟩
        have HS4 := hide (unhide HBK _ _ _ _ (hJ4.later ((Below.refl _ W4).alloc (Nat.le_refl _) (.cells #[.slice d1 rn k1] 23))))
        have HC4 := hide hcalls
        have HP4 := hide (hcap.trans (unhide HP))
        have HBL4 : Hid ((bputs (l ++ [rows])).length ≤ 9 * weight (ls.take (j + 1)) + 11 * (j + 1)) := by show _ ≤ _; rw [bputs_snoc, List.length_append]; exact (unhide HXT).1
        have HLN : Hid (l.length ≤ 1048576) := by show _ ≤ _; have := unhide HLJ; omega
        clear hJ4 hcalls hcap HJ HBK HC HP HXT HBL hbad x1' ok
        go_wp2_with (at_builtin; refine wpList_append_want rfl _ _ rfl _ (.slice d1 rn k1) l rows _ _ rfl (unhide HS4) rfl (cell_of_row _ _ 0 _ _ _ (heap_alloc_new W4 _)) (unhide X3) (unhide HLN) ?_)
        rintro v5 W5 hS5
        have HS5 := hide hS5
        clear hS5 HS4
        go_wp2_with fail
        exact ⟨⟨j + 1, B, _, by omega, by go_num, unhide HS5, unhide HC4, unhide HP4, unhide HBL4, by rw [List.length_append, List.length_singleton]; have := unhide HLJ; omega⟩, by simp [intOf]; omega⟩
      · refine (jrAppend_bad (unhide HJ) _ rows ((unhide X3).later (unhide HJ).kj.bb) hbad).mono ?_
        rintro x W4 ⟨rfl, hJ4⟩
        have HS4 := hide (unhide HBK _ _ _ _ hJ4)
        have HBL4 : Hid ((bputs l).length ≤ 9 * weight (ls.take (j + 1)) + 11 * (j + 1)) := by show _ ≤ _; have := (unhide HXT).1; omega
        have hor : bputErr rows = 34 ∨ bputErr rows = 31 := by
          unfold bputErr at hbad ⊢
          split
          · exact .inl rfl
          · split
            · rename_i h1 h2; rw [if_neg h1, if_pos h2] at hbad; exact (hbad rfl).elim
            · exact .inr rfl
        clear hJ4 HJ HBK X3 HXT HBL hbad x1'
        rcases hor with e | e
        all_goals
          rw [e]
          clear e
          go_wp2_with fail
          exact ⟨⟨j + 1, A, l, by omega, by go_num, unhide HS4, unhide HC, unhide HP, unhide HBL4, by have := unhide HLJ; omega⟩, by simp [intOf]; omega⟩
    · have ej : n = j := by omega
      subst ej
      have HJ := hide (unhide HS).done
      have HFT : Hid ((bputs l).length ≤ 27110) := by
        show _ ≤ _
        have h2 := weight_le ls n
        have h3 := unhide HW3
        have h4 := unhide HBL
        omega
      have hfl := head_field1
      clear HS HBL
      go_wp2_with fail
      refine (jrHead (unhide HJ)).mono ?_
      rintro x W4 ⟨rfl, hJ⟩
      have HJ4 := hide hJ
      clear hJ HJ
      go_wp2_with fail
      refine (jrSize (unhide HJ4)).mono ?_
      rintro x W5 ⟨rfl, hJ⟩
      obtain ⟨S, hS⟩ : ∃ S, (bputs l).length = S := ⟨_, rfl⟩
      rw [hS]
      have HSS := hide hS
      have HJ5 := hide hJ
      have HTR := hide (row_oneJ (t := 49) ((unhide HT).later hJ.kj.bb))
      have HJ6 := hide (hJ.later ((Below.refl _ W5).alloc (Nat.le_refl _) (.cells #[.slice ta tn tc] 49)))
      clear hS hJ HJ4 HJ5
      have ok1 : okRows [torn] := ⟨⟨Nat.le_refl _, by rw [List.length_singleton]; omega⟩, fun r hr => by rw [List.mem_singleton.1 hr, unhide HTL]; have := unhide H300; omega⟩
      have OK := hide ok1
      have HE0 := hide (bputErr_zero.2 ok1)
      have HO0 : Hid (bputOf [torn] = bput [torn]) := if_pos (unhide HE0)
      clear ok1
      go_wp2_with fail
      refine (kjPut (unhide HJ6).kj _ [torn] (unhide HTR)).mono ?_
      rintro x W7 ⟨pa, pc, rfl, hk⟩
      rw [unhide HO0] at hk ⊢
      rw [unhide HE0]
      obtain ⟨N, hNN⟩ : ∃ N, (bput [torn]).length = N := ⟨_, rfl⟩
      rw [hNN] at hk ⊢
      have hN1 : 20 ≤ N ∧ N ≤ 320 := by
        rw [bput_lenJ] at hNN
        have h1 : total [torn] = torn.length := by simp [total]
        rw [h1, unhide HTL, List.length_singleton] at hNN
        have := unhide H300
        omega
      have HJ7 := hide (Jr.mk hk (unhide HJ6).run)
      have HNN := hide hNN
      have hcap : N ≤ pc := by have := (bytes_len (hk.byt (List.mem_cons_self ..))).2; omega
      clear hk hNN HJ6 HTR
      have hN0 : ((N : Int) == 0) = false := by rw [beq_eq_false_iff_ne]; omega
      go_upto_region 17 with fail
      have hNe : (N : Int) ≠ 0 := by omega
      obtain ⟨r, hr⟩ : ∃ r, r = tm % N := ⟨_, rfl⟩
      have hrI : (tm : Int) % (N : Int) = (r : Int) := by rw [hr]; push_cast; rfl
      have hrl : r < N := by rw [hr]; exact Nat.mod_lt _ (by omega)
      obtain ⟨k, hk⟩ : ∃ k, k = N - 1 - r := ⟨_, rfl⟩
      have hkI : wrap64 ((N : Int) - 1 - (tm : Int) % (N : Int)) = (k : Int) := by rw [hrI]; unfold wrap64; omega
      have hkN : k < N := by omega
      have hkp : (k : Int) ≤ (pc : Int) := by omega
      have hk0 : (0 : Int) ≤ (k : Int) := by omega
      clear hr hrI hrl hk
      obtain ⟨E1, E2, S2, C2⟩ := again_st (unhide HJ7).run rfl (unhide HC) torn other (unhide OK) k (by rw [unhide HNN]; exact hkN) (by rw [unhide HP, unhide HSS, unhide HNN, unhide HOL]; have := unhide HFT; have := unhide HSS; have := unhide H300; omega)
      have HK7 := hide ((unhide HJ7).noJ.pre (m := k) (List.mem_cons_self ..) (by omega))
      have HE1 := hide E1
      have HE2 := hide E2
      clear E1 E2 HJ7
      go_wp2_with fail
      clear hkI hkp hk0 hNe hN0
      refine (kjAppend (unhide HK7) 0 (by decide) pa k pc ((bput [torn]).take k) (List.mem_cons_self ..)).mono ?_
      rintro x W8 ⟨rfl, hk⟩
      rw [unhide HE1]
      have HK8 := hide (hk.arg (.slice oa on oc) (.bytes other) (fun F hF => bytes_in (unhide HO) hF))
      clear hk HK7 HE1
      go_wp2_with fail
      refine (kjAppend (unhide HK8) 1 (by decide) oa on oc other (List.mem_cons_self ..)).mono ?_
      rintro x W9 ⟨rfl, hk⟩
      rw [unhide HE2]
      have HK9 := hide (hk.lessL (L' := [(.slice wa l.length wc', Thing.bats l)]) (fun q hq => by rw [List.mem_singleton.1 hq]; exact List.mem_cons_of_mem _ (List.mem_cons_of_mem _ (List.mem_cons_of_mem _ (List.mem_cons_self ..)))))
      clear hk HK8 HE2
      obtain ⟨B2, hB2⟩ : ∃ B2, apD (apD A 0 ((bput [torn]).take k)) 1 other = B2 := ⟨_, rfl⟩
      rw [hB2] at HK9 S2 C2
      have HS2 := hide S2
      have HC2 := hide C2
      clear hB2 S2 C2
      obtain ⟨m, hmm⟩ : ∃ m, m = 1 + tm % 5 := ⟨_, rfl⟩
      have hm5 : m ≤ 5 := by omega
      have hmI : (1 : Int) + (tm : Int) % 5 = (m : Int) := by rw [hmm]; push_cast; rfl
      have HMM := hide hmI
      clear hmm hmI
      go_upto_region 20 with fail
      rw [unhide HMM]
      go_loopw [103] (fun i W => ∃ (j : Nat) (B : AD) (h : HeadD), j ≤ m ∧ i = .int .u8 j ∧ Kj w2 W [(.slice wa l.length wc', Thing.bats l)] [] p B ∧ St B h l ∧ B.calls = -1 ∧ h.l = 0 ∧ h.e = 1 + j ∧ h.s = 2 + j) (fun i _ => m - (intOf i).toNat)
      case atStart => exact ⟨0, B2, _, Nat.zero_le _, rfl, unhide HK9, unhide HS2, unhide HC2, rfl, rfl, rfl⟩
      case round =>
        obtain ⟨j, B, h, hj, rfl, hk, hst, hc, h0, he, hs⟩ := hrel
        have HK := hide hk
        have HST := hide hst
        have HCC := hide hc
        have HH4 : Hid (h.l = 0 ∧ h.e = 1 + j ∧ h.s = 2 + j) := ⟨h0, he, hs⟩
        clear hk hst hc h0 he hs HK9 HS2 HC2 HC HP
        by_cases hlt : j < m
        · have HB1 : Hid (l.length ≤ 140737488355328) := by show _ ≤ _; have := unhide HLJ; omega
          have HB3 : Hid (∀ x ∈ l, x.length ≤ 140737488355328) := fun x hx => by have := ((unhide HST).okr x hx).1.2; omega
          have i1 : (j : Int) < (m : Int) := by omega
          go_wp2_with fail
          refine (openCalm (unhide HK) (unhide HST) (unhide HCC) (by have := unhide HH4; omega)).mono ?_
          rintro x Wa ⟨B3, g2, va, vc, rfl, _, hcalls, hJ⟩
          have HJa := hide hJ
          have HC3 := hide hcalls
          have HEE : Hid (((h.later.next.e : Nat) : Int) = 1 + (j : Int) + 1) := by show _ = _; rw [laterE (by have := unhide HH4; omega), (unhide HH4).2.1]; push_cast; rfl
          have hw1 : IntKind.u64.wrap (1 + (j : Int)) = 1 + (j : Int) := by rw [IntKind.wrap_u64]; omega
          have hw2 : IntKind.u64.wrap (1 + (j : Int) + 1) = 1 + (j : Int) + 1 := by rw [IntKind.wrap_u64]; omega
          clear hJ hcalls HK HST HCC
          go_wp2_with fail
          refine (low_sameBatches _ _ l l _ ((unhide HJa).kj.bat (List.mem_cons_self ..)) ((unhide HJa).kj.bat (List.mem_cons_of_mem _ (List.mem_cons_self ..))) (unhide HB1) (unhide HB3)).mono ?_
          rintro x Wb ⟨rfl, hb⟩
          rw [decide_eq_true (rfl : l = l)]
          have HJb := hide ((unhide HJa).later hb)
          clear hb HJa
          go_wp2_with fail
          refine (jrHead (unhide HJb)).mono ?_
          rintro x Wc ⟨rfl, hJ⟩
          rw [unhide HEE]
          have HJc := hide hJ
          clear hJ HJb
          go_wp2_with fail
          refine (jrSize (unhide HJc)).mono ?_
          rintro x Wd ⟨rfl, hJ⟩
          rw [unhide HSS]
          have HJd := hide hJ
          have HR1 : Hid (rdX B3 1 = []) := by
            show _ = _
            have h1 := hJ.run.other
            rw [later_next_l, (unhide HH4).1] at h1
            rw [rdX, hJ.run.live]
            exact h1
          clear hJ HJc
          go_wp2_with fail
          refine (kjRead (unhide HJd).kj 1 (by decide)).mono ?_
          rintro x We ⟨ra, rc, rfl, hk⟩
          have HJe := hide (Jr.mk hk (unhide HJd).run)
          rw [show (rdX B3 1).length = 0 by rw [unhide HR1]; rfl]
          clear hk HJd
          go_wp2_with fail
          exact ⟨⟨j + 1, B3, _, by omega, by go_num, (unhide HJe).noJ.lessL (fun q hq => by rw [List.mem_singleton.1 hq]; exact List.mem_cons_of_mem _ (List.mem_cons_of_mem _ (List.mem_cons_self ..))), (unhide HJe).run.st, unhide HC3, by rw [later_next_l]; exact (unhide HH4).1, by have := unhide HEE; omega, by rw [laterS (by have := unhide HH4; omega), (unhide HH4).2.2]; omega⟩, by simp [intOf]; omega⟩
        · have ej : m = j := by omega
          subst ej
          have HBB := hide (unhide HK).bb
          clear HK HST HCC
          go_wp2_with fail
          refine (jawake_any _).mono ?_
          rintro x Wf ⟨rfl, hb⟩
          have HBF := hide ((unhide HBB).trans (hb.mono (unhide HBB).size))
          clear hb HBB
          go_wp2_with fail
          go_ret
          exact ⟨rfl, unhide HBF⟩
end Go.Proofs.Ytflfiobicapopaa
