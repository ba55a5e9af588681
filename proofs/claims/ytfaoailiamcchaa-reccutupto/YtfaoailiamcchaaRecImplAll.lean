/- What All of package rec answers: a loop over a function. No statement of the seat is proved here. -/
import Derived.Test.YtfaoailiamcchaaRecImplEach
namespace Go.Proofs.Ytfaoailiamcchaa
open Go.RowKit Go.Shelf
attribute [local go_sem] Oper.semAt_some

theorem RecsO.keep {w W W' : World} {v : Value} {rs : List RecD} (h : RecsO w v rs W) (hb : Below w.heap.size w W') (hk : ∀ (k : Nat) (cs : Array Value) (t : TypeId) (f : Nat × Nat), (t = 24 ∨ t = 5) → W.heap[k]? = some (Obj.cells cs t f) → W'.heap[k]? = W.heap[k]?) : RecsO w v rs W' := by
  obtain ⟨⟨xs, h1, h2⟩, _⟩ := h
  refine ⟨⟨xs, row_keeps h1 fun k hk' => ?_, h2.to hb fun k cs f hk' => hk k cs _ f (.inr rfl) hk'⟩, hb⟩
  rcases h1.2 with ⟨e, _⟩ | ⟨g, cap, cur, e, _, h3, _⟩
  · rw [e] at hk'; cases hk'
  · rw [e] at hk'
    have e' : g = k := by simpa [Value.ownBlock] using hk'
    subst e'
    exact hk g cur _ (0, 0) (.inl rfl) h3
theorem set_other {W : World} {B k : Nat} {t t' : TypeId} {u v : Value} {cs : Array Value} {f : Nat × Nat} (h : Boxed W B t u) (hk : W.heap[k]? = some (Obj.cells cs t' f)) (ht : t ≠ t') : (W.setCell ⟨B, 0, none⟩ v).heap[k]? = W.heap[k]? :=
  Below.heap_setCell _ _ _ _ fun e => by
    have e : k = B := e
    subst e
    have h2 : W.heap[k]? = _ := h
    rw [h2] at hk
    simp only [Option.some.injEq, Obj.cells.injEq] at hk
    exact ht hk.2.1

/-- The variables of All, each in its block. -/
structure AllSt (w : World) (u : Value) (u2 u3 u4 v e : Value) (rs : List RecD) (W : World) : Prop where
  b2 : Boxed W w.heap.size 34 u2
  b3 : Boxed W (w.heap.size + 1) 3 u3
  b4 : Boxed W (w.heap.size + 2) 27 u4
  bv : Boxed W (w.heap.size + 3) 34 v
  be : Boxed W (w.heap.size + 4) 3 e
  bb : Boxed W (w.heap.size + 5) 22 u
  rs : RecsO w v rs W
section
variable {w : World} {u u2 u3 u4 v e : Value} {rs : List RecD} {W : World}
theorem AllSt.keep (h : AllSt w u u2 u3 u4 v e rs W) {W' : World} (hb : Below w.heap.size w W') (hk : ∀ (k : Nat) (cs : Array Value) (t : TypeId) (f : Nat × Nat), W.heap[k]? = some (Obj.cells cs t f) → W'.heap[k]? = W.heap[k]?) : AllSt w u u2 u3 u4 v e rs W' :=
  ⟨(hk _ _ _ _ h.b2).trans h.b2, (hk _ _ _ _ h.b3).trans h.b3, (hk _ _ _ _ h.b4).trans h.b4, (hk _ _ _ _ h.bv).trans h.bv, (hk _ _ _ _ h.be).trans h.be, (hk _ _ _ _ h.bb).trans h.bb, h.rs.keep hb fun k cs t f _ => hk k cs t f⟩
theorem AllSt.later (h : AllSt w u u2 u3 u4 v e rs W) {W' : World} (hb : Below W.heap.size W W') : AllSt w u u2 u3 u4 v e rs W' :=
  h.keep (h.rs.bb.trans (hb.mono h.rs.bb.size)) fun k _ _ _ hk => hb.block k (Array.getElem?_eq_some_iff.1 hk).1
theorem AllSt.drew (h : AllSt w u u2 u3 u4 v e rs W) : AllSt w u u2 u3 u4 v e rs W.drew := h.later ((Below.refl _ _).drew)
theorem AllSt.set2 (h : AllSt w u u2 u3 u4 v e rs W) (x : Value) : AllSt w u x u3 u4 v e rs (W.setCell ⟨w.heap.size, 0, none⟩ x) :=
  ⟨h.b2.set x, h.b3.other (by omega) x, h.b4.other (by omega) x, h.bv.other (by omega) x, h.be.other (by omega) x, h.bb.other (by omega) x, h.rs.keep (h.rs.bb.setCell (p := ⟨w.heap.size, 0, none⟩) (by simp) _) fun k cs t f ht hk => set_other h.b2 hk (by rcases ht with rfl | rfl <;> decide)⟩
theorem AllSt.set3 (h : AllSt w u u2 u3 u4 v e rs W) (x : Value) : AllSt w u u2 x u4 v e rs (W.setCell ⟨w.heap.size + 1, 0, none⟩ x) :=
  ⟨h.b2.other (by omega) x, h.b3.set x, h.b4.other (by omega) x, h.bv.other (by omega) x, h.be.other (by omega) x, h.bb.other (by omega) x, h.rs.keep (h.rs.bb.setCell (p := ⟨w.heap.size + 1, 0, none⟩) (by simp) _) fun k cs t f ht hk => set_other h.b3 hk (by rcases ht with rfl | rfl <;> decide)⟩
theorem AllSt.set4 (h : AllSt w u u2 u3 u4 v e rs W) (x : Value) : AllSt w u u2 u3 x v e rs (W.setCell ⟨w.heap.size + 2, 0, none⟩ x) :=
  ⟨h.b2.other (by omega) x, h.b3.other (by omega) x, h.b4.set x, h.bv.other (by omega) x, h.be.other (by omega) x, h.bb.other (by omega) x, h.rs.keep (h.rs.bb.setCell (p := ⟨w.heap.size + 2, 0, none⟩) (by simp) _) fun k cs t f ht hk => set_other h.b4 hk (by rcases ht with rfl | rfl <;> decide)⟩
theorem AllSt.setE (h : AllSt w u u2 u3 u4 v e rs W) (x : Value) : AllSt w u u2 u3 u4 v x rs (W.setCell ⟨w.heap.size + 4, 0, none⟩ x) :=
  ⟨h.b2.other (by omega) x, h.b3.other (by omega) x, h.b4.other (by omega) x, h.bv.other (by omega) x, h.be.set x, h.bb.other (by omega) x, h.rs.keep (h.rs.bb.setCell (p := ⟨w.heap.size + 4, 0, none⟩) (by simp) _) fun k cs t f ht hk => set_other h.be hk (by rcases ht with rfl | rfl <;> decide)⟩
/-- A row that has grown is laid back into its variable. -/
theorem AllSt.grown (h : AllSt w u u2 u3 u4 v e rs W) {W' : World} {v' : Value} {rs' : List RecD} (hr : RecsO w v' rs' W') (hg : W.grownBy W' v.ownBlock) : AllSt w u u2 u3 u4 v' e rs' (W'.setCell ⟨w.heap.size + 3, 0, none⟩ v') ∧ Boxed W' (w.heap.size + 3) 34 v := by
  obtain ⟨xs, hrow, _⟩ := h.rs.row
  have k2 : Boxed W' w.heap.size 34 u2 := h.b2.kept hg (h.b2.not_row (by decide) hrow)
  have k3 : Boxed W' (w.heap.size + 1) 3 u3 := h.b3.kept hg (h.b3.not_row (by decide) hrow)
  have k4 : Boxed W' (w.heap.size + 2) 27 u4 := h.b4.kept hg (h.b4.not_row (by decide) hrow)
  have kv : Boxed W' (w.heap.size + 3) 34 v := h.bv.kept hg (h.bv.not_row (by decide) hrow)
  have ke : Boxed W' (w.heap.size + 4) 3 e := h.be.kept hg (h.be.not_row (by decide) hrow)
  have kb : Boxed W' (w.heap.size + 5) 22 u := h.bb.kept hg (h.bb.not_row (by decide) hrow)
  exact ⟨⟨k2.other (by omega) _, k3.other (by omega) _, k4.other (by omega) _, kv.set _, ke.other (by omega) _, kb.other (by omega) _, hr.keep (hr.bb.setCell (p := ⟨w.heap.size + 3, 0, none⟩) (by simp) _) fun k cs t f ht hk => set_other kv hk (by rcases ht with rfl | rfl <;> decide)⟩, kv⟩
theorem AllSt.size (h : AllSt w u u2 u3 u4 v e rs W) : w.heap.size + 6 ≤ W.heap.size := h.bb.lt
end
/-- A block of another type is not the row's. -/
theorem not_row {w W W' : World} {v : Value} {rs : List RecD} (h : RecsO w v rs W) {k : Nat} {cs : Array Value} {t : TypeId} {f : Nat × Nat} (hk : W.heap[k]? = some (.cells cs t f)) (ht : t ≠ 24) (hg : W.grownBy W' v.ownBlock) : W'.heap[k]? = some (.cells cs t f) := by
  obtain ⟨xs, hrow, _⟩ := h.row
  refine (hg.block k (Array.getElem?_eq_some_iff.1 hk).1 fun e => ?_).trans hk
  rcases hrow.2 with ⟨e1, _⟩ | ⟨g2, _, _, e1, _, e3, _⟩
  · rw [e1] at e; cases e
  · rw [e1] at e
    have e' : k = g2 := by simpa [Value.ownBlock] using e
    subst e'
    rw [hk] at e3
    simp only [Option.some.injEq, Obj.cells.injEq] at e3
    exact ht e3.2.1
/-- It abides what is turned elsewhere. -/
theorem allSt_own {β : Type} {w : World} {u : Value} {B : Nat} (hB : w.heap.size ≤ B) (f2 f3 f4 fe : β → Value) (frs : β → List RecD) (G : β → Prop) : OwnFrom B (fun (s : β) W => ∃ v, AllSt w u (f2 s) (f3 s) (f4 s) v (fe s) (frs s) W ∧ G s) := by
  rintro s X Y row ⟨v, h, hG⟩ hg hr
  refine ⟨v, h.keep (h.rs.bb.grown hg h.rs.bb.size fun k e => Nat.le_trans hB (hr k e).1) fun k cs t f hk => hg.block k (Array.getElem?_eq_some_iff.1 hk).1 fun e => ?_, hG⟩
  obtain ⟨_, o, ho, hc⟩ := hr k e.symm
  rw [hk] at ho
  cases ho
  cases hc

theorem AllSt.putD {w : World} {u u2 u3 u4 v e : Value} {rs : List RecD} {W : World} (h : AllSt w u u2 u3 u4 v e rs W) {D : Nat} {o : Obj} (o' : Obj) (hD : w.heap.size ≤ D) (hK : W.heap[D]? = some o) (ho : o.isCells = false) : AllSt w u u2 u3 u4 v e rs (W.putObj D o') :=
  h.keep (h.rs.bb.grown (grownBy_putObj' W D o') h.rs.bb.size fun k e => by cases e; exact hD) fun k cs t f hk => World.putObj_heap_other fun e => by
    subst e
    rw [hk] at hK
    cases hK
    cases ho

theorem each_any (a : Option Addr) (n c : Nat) (w : World) : Calls Try.prog 31 #[.slice a n c] w fun e w' => e = .returned (.func (.func 34) #[] #[.pointer (some ⟨w.heap.size, 0, none⟩)]) ∧ w' = w.alloc (.cells #[.slice a n c] 22) := by
  go_enter Try.func31, Try.ntmps31
  go_wp2
  go_ret
  exact ⟨rfl, rfl⟩

/-- A record is appended to a row of ours, inside a fence. -/
theorem wpListIn_append_rec {F : Fence} {n : Nat} {w W : World} {ops : Array Oper} {rest : List Oper} {op : Oper} {a : Act} {Q : Exit → Act → World → Prop}
    (hg : op.guard = none) (s x : Operand) (hop : op.op = Op.call { callee := Callee.builtin Builtin.append, args := #[s, x], argTypes := #[34, 34] })
    (v : Value) (rs : List RecD) (r : RecD) (a' : Option Addr) (n' c' g cap : Nat) (hsv : a.eval s = v) (hR : RecsO w v rs W) (hx : a.eval x = .slice (some ⟨g, 0, none⟩) 1 cap)
    (h0 : W.cell? ⟨g, 0, none⟩ = some (.int .u8 (r.k.toNat : Nat))) (h1 : W.cell? ⟨g, 1, none⟩ = some (.slice a' n' c')) (hO : Own w (.slice a' n' c') r.d W) (hl : rs.length ≤ 1048576)
    (hK : ∀ g' cap' W', RecsO w (.slice (some ⟨g', 0, none⟩) (rs.length + 1) cap') (rs ++ [r]) W' → W.grownBy W' v.ownBlock → wpListIn F n Try.prog ops Q rest (a.put op.dst (.slice (some ⟨g', 0, none⟩) (rs.length + 1) cap')) W') :
    wpListIn F n Try.prog ops Q (op :: rest) a W := by
  obtain ⟨i, z, hi, hz, hs, hb, hzs⟩ := infoRec
  obtain ⟨⟨xs, hrow, hcells⟩, hbb⟩ := hR
  refine wpListIn_append_own W hg s x 34 hop w.heap.size 24 i z 2 32 Try.underlying34 hi hz hs hb hzs (by decide) v rs.length xs hsv hrow ⟨g, 0, none⟩ 1 cap (recCells r (.slice a' n' c')) hx rfl
    (fun j u hj => by
      match j, hj with
      | 0, hj => cases hj; exact h0
      | 1, hj => cases hj; exact h1)
    (fun u hu => by
      have : u = .int .u8 (r.k.toNat : Nat) ∨ u = .slice a' n' c' := by simpa [recCells] using hu
      rcases this with rfl | rfl <;> rfl)
    (by unfold maxLen; omega) (by omega) hbb.size ?_
  intro v' W' r1 r2 _
  have hb' : Below w.heap.size w W' := ⟨r2.os.trans hbb.os, r2.tape.trans hbb.tape, r2.output.trans hbb.output, Nat.le_trans hbb.size r2.size, fun k hk => (r2.block k (Nat.lt_of_lt_of_le hk hbb.size) (fun e => by have := (hrow.lt k e.symm).1; omega)).trans (hbb.block k hk)⟩
  have hkp : ∀ (k : Nat) (cs : Array Value) (f : Nat × Nat), W.heap[k]? = some (Obj.cells cs 5 f) → W'.heap[k]? = W.heap[k]? := fun k cs f hk => by
    refine r2.block k (Array.getElem?_eq_some_iff.1 hk).1 fun e => ?_
    rcases hrow.2 with ⟨e1, _⟩ | ⟨g2, _, _, e1, _, e3, _⟩
    · rw [e1] at e; cases e
    · rw [e1] at e
      have e' : k = g2 := by simpa [Value.ownBlock] using e
      subst e'
      rw [e3] at hk
      cases hk
  have hfin : RecsO w v' (rs ++ [r]) W' := by
    refine ⟨⟨_, by rw [List.length_append]; exact r1, .snoc (hcells.to hb' hkp) ⟨own_keeps hO.own fun k hk => ?_, hO.new, hb'⟩⟩, hb'⟩
    rcases hO.own.2 with ⟨e1, _⟩ | ⟨g2, _, _, e1, _, e3, _⟩
    · rw [e1] at hk; cases hk
    · rw [e1] at hk
      have e' : g2 = k := by simpa [Value.ownBlock] using hk
      subst e'
      exact hkp _ _ _ e3
  obtain ⟨g', cap', rfl⟩ := ownsRow_succ r1
  exact hK g' cap' W' hfin r2

theorem each_told (n : Nat) (hn : 1 ≤ n) (len cap : Nat) (a : Option Addr) (b : List UInt8) (w : World) (hlen : b.length = len) (hmax : len ≤ 1048576) (hB : Bytes w (.slice a len cap) b) (Bb : Nat) (w2 : World) (hw2 : Below w.heap.size w w2) (hb : Boxed w2 Bb 22 (.slice a len cap)) :
    Told Fence.wide n Try.prog 34 #[.pointer (some ⟨Bb, 0, none⟩)] Tk.enc (Tk.At w) (Keeps w.heap.size Bb) (AllCame b) (LeftOff b) (len + 1) w2 := fun l J Jx W hW hJ hY h0 =>
  each1_in n hn l Bb len cap a b w hlen hmax hB J Jx hJ hY W (hw2.trans (hW.mono hw2.size)) ((hW.block Bb hb.lt).trans hb) h0

/-- The struct that a round is handed, in its block. -/
def Tk.cells (x : Tk) : Array Value := #[.int .u8 (x.r.k.toNat : Nat), .slice x.a x.n x.c, .int .i64 ((x.fin : Nat) : Int), .int .i64 x.err]

/-- Between two rounds. -/
def AllI (w : World) (u : Value) (pre : List Tk) (W : World) : Prop := ∃ v, AllSt w u (.slice none 0 0) (.int .i64 0) (.int .i64 0) v (.int .i64 ((lastFin pre : Nat) : Int)) (pre.map Tk.r) W ∧ ∀ x ∈ pre, x.err = 0
/-- A round has returned. -/
def AllX (w : World) (u : Value) (c : Code) (pre : List Tk) (W : World) : Prop := ∃ v, ∃ p x, pre = p ++ [x] ∧ c = .ret ∧ x.err ≠ 0 ∧ AllSt w u v (.int .i64 ((lastFin p : Nat) : Int)) (.int .i64 x.err) v (.int .i64 ((lastFin p : Nat) : Int)) (p.map Tk.r) W
theorem allX_own {w : World} {u : Value} {B : Nat} (hB : w.heap.size ≤ B) (c : Code) : OwnFrom B (AllX w u c) := by
  rintro s X Y row ⟨v, p, x, h1, h2, h3, h⟩ hg hr
  refine ⟨v, p, x, h1, h2, h3, h.keep (h.rs.bb.grown hg h.rs.bb.size fun k e => Nat.le_trans hB (hr k e).1) fun k cs t f hk => hg.block k (Array.getElem?_eq_some_iff.1 hk).1 fun e => ?_⟩
  obtain ⟨_, o, ho, hc⟩ := hr k e.symm
  rw [hk] at ho
  cases ho
  cases hc

/-- What the loop's own variable leaves. -/
def AllA (w : World) (u : Value) (x : Tk) (a' : Act) (W : World) : Prop := ∃ Bx, w.heap.size + 6 ≤ Bx ∧ W.heap[Bx]? = some (.cells x.cells 60 (0, 0)) ∧ Tk.At w x W ∧
  a' = { tmps := #[u, undef, .pointer (some ⟨w.heap.size, 0, none⟩), .pointer (some ⟨w.heap.size + 1, 0, none⟩), .pointer (some ⟨w.heap.size + 2, 0, none⟩), .pointer (some ⟨w.heap.size + 3, 0, none⟩), .pointer (some ⟨w.heap.size + 4, 0, none⟩), .pointer (some ⟨Bx, 0, none⟩), u, .func (.func 34) #[] #[.pointer (some ⟨w.heap.size + 5, 0, none⟩)], .agg x.cells, undef, undef, undef, undef, undef, undef, undef, undef, undef, undef, undef, undef, undef, undef, undef, undef], defers := [] }
theorem allA_own {w : World} {u : Value} {B : Nat} (hB : w.heap.size ≤ B) (x : Tk) (a' : Act) : OwnFrom B (fun (_ : Unit) W => AllA w u x a' W) := by
  rintro s X Y row ⟨Bx, h1, h2, h3, h4⟩ hg hr
  have hk : ∀ (k : Nat) (cs : Array Value) (t : TypeId) (f : Nat × Nat), X.heap[k]? = some (Obj.cells cs t f) → Y.heap[k]? = X.heap[k]? := fun k cs t f hk => hg.block k (Array.getElem?_eq_some_iff.1 hk).1 fun e => by
    obtain ⟨_, o, ho, hc⟩ := hr k e.symm
    rw [hk] at ho
    cases ho
    cases hc
  refine ⟨Bx, h1, (hk _ _ _ _ h2).trans h2, ⟨own_keeps h3.own fun k hk' => ?_, h3.new, h3.bb.grown hg h3.bb.size fun k e => Nat.le_trans hB (hr k e).1⟩, h4⟩
  rcases h3.own.2 with ⟨e, _⟩ | ⟨g, cap, cur, e, _, h5, _⟩
  · rw [e] at hk'; cases hk'
  · rw [e] at hk'
    have e' : g = k := by simpa [Value.ownBlock] using hk'
    subst e'
    exact hk _ _ _ _ h5

theorem allSt_new (w : World) (u : Value) : AllSt w u (.slice none 0 0) (.int .i64 0) (.int .i64 0) (.slice none 0 0) (.int .i64 0) [] ((((((w.alloc (.cells #[.slice none 0 0] 34)).alloc (.cells #[.int .i64 0] 3)).alloc (.cells #[.int .i64 0] 27)).alloc (.cells #[.slice none 0 0] 34)).alloc (.cells #[.int .i64 0] 3)).alloc (.cells #[u] 22)) := by
  have e2 := Boxed.new w 34 (.slice none 0 0)
  obtain ⟨w1, hw1⟩ : ∃ w1, w1 = w.alloc (.cells #[.slice none 0 0] 34) := ⟨_, rfl⟩
  have s1 : w1.heap.size = w.heap.size + 1 := by rw [hw1]; simp
  have e3 := Boxed.new w1 3 (.int .i64 0)
  obtain ⟨w2, hw2⟩ : ∃ w2, w2 = w1.alloc (.cells #[.int .i64 0] 3) := ⟨_, rfl⟩
  have s2 : w2.heap.size = w.heap.size + 2 := by rw [hw2]; simp [s1]
  have e4 := Boxed.new w2 27 (.int .i64 0)
  obtain ⟨w3, hw3⟩ : ∃ w3, w3 = w2.alloc (.cells #[.int .i64 0] 27) := ⟨_, rfl⟩
  have s3 : w3.heap.size = w.heap.size + 3 := by rw [hw3]; simp [s2]
  have e5 := Boxed.new w3 34 (.slice none 0 0)
  obtain ⟨w4, hw4⟩ : ∃ w4, w4 = w3.alloc (.cells #[.slice none 0 0] 34) := ⟨_, rfl⟩
  have s4 : w4.heap.size = w.heap.size + 4 := by rw [hw4]; simp [s3]
  have e6 := Boxed.new w4 3 (.int .i64 0)
  obtain ⟨w5, hw5⟩ : ∃ w5, w5 = w4.alloc (.cells #[.int .i64 0] 3) := ⟨_, rfl⟩
  have s5 : w5.heap.size = w.heap.size + 5 := by rw [hw5]; simp [s4]
  have e7 := Boxed.new w5 22 u
  have hb : Below w.heap.size w (w5.alloc (.cells #[u] 22)) := by
    rw [hw5, hw4, hw3, hw2, hw1]
    exact ((((((Below.refl _ w).alloc (Nat.le_refl _) _).alloc (by simp) _).alloc (by simp; omega) _).alloc (by simp; omega) _).alloc (by simp; omega) _).alloc (by simp; omega) _
  rw [← hw1, ← hw2, ← hw3, ← hw4, ← hw5]
  rw [← hw1] at e2
  rw [← hw2, s1] at e3
  rw [← hw3, s2] at e4
  rw [← hw4, s3] at e5
  rw [← hw5, s4] at e6
  rw [s5] at e7
  refine ⟨?_, ?_, ?_, ?_, e6.alloc _, e7, (RecsO.start w).keep hb fun k cs t f _ hk => (hb.block k (Array.getElem?_eq_some_iff.1 hk).1)⟩
  · rw [hw5, hw4, hw3, hw2]; exact ((((e2.alloc _).alloc _).alloc _).alloc _).alloc _
  · rw [hw5, hw4, hw3]; exact (((e3.alloc _).alloc _).alloc _).alloc _
  · rw [hw5, hw4]; exact ((e4.alloc _).alloc _).alloc _
  · rw [hw5]; exact (e5.alloc _).alloc _

set_option maxRecDepth 100000 in
set_option maxHeartbeats 4000000 in
theorem recAll_any (a : Option Addr) (n c : Nat) (b : List UInt8) (w : World) (h : Bytes w (.slice a n c) b) (hl : n ≤ 1048576) : Calls Try.prog 16 #[.slice a n c] w fun e w' => AllAt w b e w' := by
  have hbl := (bytes_len h).1
  have HBL := hide hbl
  have HH := hide h
  have HL := hide hl
  obtain ⟨w2, hw2⟩ : ∃ w2, w2 = (((((w.alloc (.cells #[.slice none 0 0] 34)).alloc (.cells #[.int .i64 0] 3)).alloc (.cells #[.int .i64 0] 27)).alloc (.cells #[.slice none 0 0] 34)).alloc (.cells #[.int .i64 0] 3)).alloc (.cells #[.slice a n c] 22) := ⟨_, rfl⟩
  have hS := allSt_new w (.slice a n c)
  rw [← hw2] at hS
  have HS := hide hS
  have HSZ : Hid (w2.heap.size = w.heap.size + 6) := by rw [hw2]; show _ = _; simp
  have HW2 := hide hw2
  clear h hbl hl hS hw2
  refine (callsIn_wide (n := 3)).1 ?_
  refine callsIn_of_wp_marks Try.func16 rfl trivial ?_ rfl
  simp only [Try.ntmps16, List.size_toArray, List.length_cons, List.length_nil, Nat.reduceAdd, Nat.reduceSub, Array.replicate_succ, Array.replicate_zero, List.push_toArray, List.append_toArray, List.nil_append, List.cons_append]
  gi_wp2
  refine ⟨trivial, (callsIn_wide.2 (each_any a n c _)).mono ?_⟩
  rintro e w' ⟨rfl, rfl⟩
  rw [← unhide HW2]
  simp only [World.size_alloc]
  gi_wp2
  simp only [Nat.add_assoc, Nat.reduceAdd]
  have hsz := unhide HSZ
  refine wpIn_told rfl (by omega) (gf := 34) (lb := #[.pointer (some ⟨w.heap.size + 5, 0, none⟩)]) rfl trivial (enters_of Try.func34 (by kernel_rfl) rfl)
    (each_told (3 - 1) (by omega) n c a b w (unhide HBL) (unhide HL) (unhide HH) (w.heap.size + 5) w2 (unhide HS).rs.bb (unhide HS).bb) (fun h k => h.trans k) (fun W l o o' hlo h1 h2 h3 => ⟨belowK_b (w := w2) (by omega) W l o o' hlo h1 h2 h3, World.putObj_heap_other (by omega)⟩) (Below.refl _ _) (fun _ => rfl)
    (AllI w (.slice a n c)) (AllX w (.slice a n c)) (allSt_own (by omega) _ _ _ _ _ _) (allX_own (by omega)) ⟨_, unhide HS, fun x hx => (by cases hx)⟩ (AllA w (.slice a n c)) (allA_own (by omega)) ?assign ?body ?done ?stop
  case assign =>
    intro l pre x W K hi hR hK
    have HI := hide hi
    have HR := hide hR
    have HK := hide hK
    clear hi hR hK
    dsimp only [Tk.enc]
    gi_wp2
    obtain ⟨v, hst, hok⟩ := unhide HI
    have hb := (Below.refl _ W).alloc (Nat.le_refl _) (.cells x.cells 60)
    exact unhide HK _ _ ((KeepsOthers.alloc _ _).from _) ⟨hb.mono hst.rs.bb.size, hb.block _ hst.bb.lt⟩ ⟨v, hst.later hb, hok⟩ ⟨W.heap.size, hst.size, heap_alloc_new W _, (unhide HR).alloc _, rfl⟩
  case body =>
    rintro l pre x a' W ⟨v, hst, hok⟩ ⟨Bx, hBx, hx, hAt, rfl⟩ hlt
    clear hsz
    obtain ⟨va, vc, rfl, _⟩ := hst.rs.recsAt.form
    obtain ⟨vn, hvn⟩ : ∃ vn, vn = (pre.map Tk.r).length := ⟨_, rfl⟩
    rw [← hvn] at hst
    have HVN := hide hvn
    clear hvn
    have HST := hide hst
    have HOK := hide hok
    have HAT := hide hAt
    have HXB := hide hx
    have xe : W.cell? ⟨Bx, 3, none⟩ = some (.int .i64 x.err) := cell_of_row _ _ 3 _ _ _ hx
    have xf : W.cell? ⟨Bx, 2, none⟩ = some (.int .i64 ((x.fin : Nat) : Int)) := cell_of_row _ _ 2 _ _ _ hx
    have x0 : W.cell? ⟨Bx, 0, none⟩ = some (.int .u8 (x.r.k.toNat : Nat)) := cell_of_row _ _ 0 _ _ _ hx
    have x1 : W.cell? ⟨Bx, 1, none⟩ = some (.slice x.a x.n x.c) := cell_of_row _ _ 1 _ _ _ hx
    have cv := hst.bv.cell
    have fv := hst.bv.frozen
    have ce := hst.be.cell
    have fe := hst.be.frozen
    have c2 := hst.b2.cell
    have f2 := hst.b2.frozen
    have c3 := hst.b3.cell
    have f3 := hst.b3.frozen
    have c4 := hst.b4.cell
    have f4 := hst.b4.frozen
    clear hst hok hAt hx
    dsimp only [Tk.cells]
    by_cases h0 : x.err = 0
    · have h0' : (x.err == 0) = true := beq_iff_eq.2 h0
      have h0'' : (x.err != 0) = false := by rw [bne, h0']; rfl
      have HX0 := hide h0
      clear h0
      have HSA := hide ((unhide HST).later ((Below.refl _ W).alloc (Nat.le_refl _) (.cells #[.int .u8 (x.r.k.toNat : Nat), .slice x.a x.n x.c] 24)))
      have HAA := hide ((unhide HAT).alloc (.cells #[.int .u8 (x.r.k.toNat : Nat), .slice x.a x.n x.c] 24))
      have HXA : Hid ((W.alloc (.cells #[.int .u8 (x.r.k.toNat : Nat), .slice x.a x.n x.c] 24)).heap[W.heap.size]? = some (.cells #[.int .u8 (x.r.k.toNat : Nat), .slice x.a x.n x.c] 24 (0, 0))) := heap_alloc_new W _
      have HXC : Hid ((W.alloc (.cells #[.int .u8 (x.r.k.toNat : Nat), .slice x.a x.n x.c] 24)).heap[Bx]? = some (.cells x.cells 60 (0, 0))) := (Below.heap_alloc _ _ _ (Array.getElem?_eq_some_iff.1 (unhide HXB)).1).trans (unhide HXB)
      have HLN : Hid ((pre.map Tk.r).length ≤ 1048576) := by show _ ≤ _; rw [List.length_map]; have := unhide HL; omega
      clear fv c2 f2 c3 f3 c4 f4 ce fe
      gi_wp2_with (gi_at_builtin; refine wpListIn_append_rec rfl _ _ rfl _ (pre.map Tk.r) x.r x.a x.n x.c W.heap.size _ rfl (unhide HSA).rs rfl (cell_of_row _ _ 0 _ _ _ (unhide HXA)) (cell_of_row _ _ 1 _ _ _ (unhide HXA)) (unhide HAA) (unhide HLN) ?_)
      rintro g' cap' W1 hR1 hg1
      obtain ⟨hst1, hkv⟩ := (unhide HSA).grown hR1 hg1
      have hx1 := not_row (unhide HSA).rs (unhide HXC) (by decide) hg1
      have hx2 : (W1.setCell ⟨w.heap.size + 3, 0, none⟩ (.slice (some ⟨g', 0, none⟩) (pre.length + 1) cap')).heap[Bx]? = some (.cells x.cells 60 (0, 0)) := (Below.heap_setCell _ _ _ _ (by show Bx ≠ w.heap.size + 3; omega)).trans hx1
      have x2 : (W1.setCell ⟨w.heap.size + 3, 0, none⟩ (.slice (some ⟨g', 0, none⟩) (pre.length + 1) cap')).cell? ⟨Bx, 2, none⟩ = some (.int .i64 ((x.fin : Nat) : Int)) := cell_of_row _ _ 2 _ _ _ hx2
      have c1 := hkv.cell
      have f1 := hkv.frozen
      have c2 := hst1.be.cell
      have f2 := hst1.be.frozen
      have HKO : Hid (KeepsOthers W W1) := (KeepsOthers.alloc _ _).trans (KeepsOthers.of_grownBy hg1 fun j o e ho => by
        obtain ⟨xs, hrow, _⟩ := (unhide HSA).rs.row
        rcases hrow.2 with ⟨e1, _⟩ | ⟨g2, _, _, e1, _, e3, _⟩
        · rw [e1] at e; cases e
        · rw [e1] at e
          have e' : g2 = j := by simpa [Value.ownBlock] using e
          subst e'
          rw [e3] at ho
          cases ho
          rfl)
      have HBW : Hid (Below w.heap.size W W1) := ((Below.refl w.heap.size W).alloc (unhide HST).rs.bb.size _).grown hg1 (by simp; have := (unhide HST).rs.bb.size; omega) (fun k e => by
        obtain ⟨xs, hrow, _⟩ := (unhide HSA).rs.row
        exact (hrow.lt k e).1)
      have HBB : Hid (W1.heap[w.heap.size + 5]? = W.heap[w.heap.size + 5]?) := (not_row (unhide HSA).rs (unhide HSA).bb (by decide) hg1).trans (unhide HST).bb.symm
      have HS1 := hide hst1
      clear hst1 hkv hx1 hx2 hR1 hg1 xe xf x0 x1 cv HXC HXA HAA HSA
      generalize hW2 : W1.setCell ⟨w.heap.size + 3, 0, none⟩ _ = W2 at *
      gi_wp2
      have hk2 : KeepsOthers W1 W2 := by rw [← hW2]; exact KeepsOthers.setCell _ _ _
      refine ⟨(((unhide HKO).trans hk2).trans (KeepsOthers.setCell _ _ _)).from _, ⟨?_, ?_⟩, .slice (some ⟨g', 0, none⟩) (pre.length + 1) cap', ?_, ?_⟩
      · rw [← hW2]
        exact ((unhide HBW).setCell (p := ⟨w.heap.size + 3, 0, none⟩) (by simp) _).setCell (p := ⟨w.heap.size + 4, 0, none⟩) (by simp) _
      · rw [Below.heap_setCell _ _ _ _ (by show w.heap.size + 5 ≠ w.heap.size + 4; omega), ← hW2, Below.heap_setCell _ _ _ _ (by show w.heap.size + 5 ≠ w.heap.size + 3; omega)]
        exact unhide HBB
      · rw [List.map_append, lastFin_snoc]
        exact (unhide HS1).setE _
      · intro y hy
        rcases List.mem_append.1 hy with h1 | h1
        · exact unhide HOK y h1
        · rw [List.mem_singleton.1 h1]; exact unhide HX0
    · have h0' : (x.err == 0) = false := beq_eq_false_iff_ne.2 h0
      have h0'' : (x.err != 0) = true := bne_iff_ne.2 h0
      have HX0 := hide h0
      clear h0
      clear x0 x1 xf
      gi_wp2
      gi_region
      all_goals (
        gi_wp2
        exact ⟨((KeepsOthers.setCell _ _ _).trans ((KeepsOthers.setCell _ _ _).trans ((KeepsOthers.setCell _ _ _).trans (KeepsOthers.drew _)))).from _, _, pre, x, rfl, rfl, unhide HX0, ((((unhide HST).set2 _).set3 _).set4 _).drew⟩)
  case done =>
    rintro D ys W hD hS ⟨v, hst, hok⟩ hK
    have hD' : w.heap.size ≤ D := by omega
    clear hsz hD
    obtain ⟨va, vc, rfl, _⟩ := hst.rs.recsAt.form
    obtain ⟨vn, hvn⟩ : ∃ vn, vn = (ys.map Tk.r).length := ⟨_, rfl⟩
    rw [← hvn] at hst
    clear hvn
    have HA : Hid (AllIs b (ys.map Tk.r) (lastFin ys) 0) := by
      rcases hS with ⟨x, hx, hne⟩ | h
      · exact absurd (hok x hx) hne
      · exact h
    have HST := hide hst
    have HKD := hide hK
    have cv := hst.bv.cell
    have ce := hst.be.cell
    have c2 := hst.b2.cell
    have f2 := hst.b2.frozen
    have c3 := hst.b3.cell
    have f3 := hst.b3.frozen
    have c4 := hst.b4.cell
    have f4 := hst.b4.frozen
    clear hst hok hS hK
    gi_wp2
    gi_region
    all_goals (
      gi_wp2
      have hK' := ((KeepsOthers.setCell W ⟨w.heap.size, 0, none⟩ (.slice va vn vc)).trans ((KeepsOthers.setCell _ ⟨w.heap.size + 1, 0, none⟩ (.int .i64 ((lastFin ys : Nat) : Int))).trans ((KeepsOthers.setCell _ ⟨w.heap.size + 2, 0, none⟩ (.int .i64 0)).trans (KeepsOthers.drew _)))).same D _ (unhide HKD) rfl
      have hst := ((((unhide HST).set2 (.slice va vn vc)).set3 (.int .i64 ((lastFin ys : Nat) : Int))).set4 (.int .i64 0)).drew
      have hst' := hst.putD (.deferred none) hD' hK' rfl
      refine ⟨by simp, .inl ⟨_, _, rfl, run_takeDeferred hK', ?_⟩⟩
      have d2 := hst'.b2.cell
      have d3 := hst'.b3.cell
      have d4 := hst'.b4.cell
      refine ⟨.tuple #[.slice va vn vc, .int .i64 ((lastFin ys : Nat) : Int), .int .i64 0], ?_, _, ys.map Tk.r, lastFin ys, 0, rfl, unhide HA, hst'.rs⟩
      simp [results, Try.f16, go_sem, d2, d3, d4])
  case stop =>
    rintro D c pre W hD ⟨p1, x1, hp1, hall⟩ ⟨v, p, x, hpre, rfl, hx, hst⟩ hK
    have hD' : w.heap.size ≤ D := by omega
    clear hsz hD
    have HA : Hid (AllIs b (p.map Tk.r) (lastFin p) x.err) := by
      rw [hp1] at hpre
      obtain ⟨e1, e2⟩ := List.append_inj' hpre rfl
      have e3 : x1 = x := by simpa using e2
      subst e1 e3
      exact hall hx
    have HST := hide hst
    have HKD := hide hK
    clear hst hK hp1 hall hpre hx
    gi_wp2
    have hst' := (unhide HST).putD (.deferred none) hD' (unhide HKD) rfl
    refine ⟨by simp, .inl ⟨_, _, rfl, run_takeDeferred (unhide HKD), ?_⟩⟩
    have d2 := hst'.b2.cell
    have d3 := hst'.b3.cell
    have d4 := hst'.b4.cell
    refine ⟨.tuple #[v, .int .i64 ((lastFin p : Nat) : Int), .int .i64 x.err], ?_, _, p.map Tk.r, lastFin p, x.err, rfl, unhide HA, hst'.rs⟩
    simp [results, Try.f16, go_sem, d2, d3, d4]
end Go.Proofs.Ytfaoailiamcchaa
