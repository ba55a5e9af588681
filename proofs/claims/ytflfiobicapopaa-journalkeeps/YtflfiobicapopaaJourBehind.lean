/- What a journal is behind a batch: the statements' own function. No statement of the seat is proved here. -/
import Derived.Test.YtflfiobicapopaaJourFull
namespace Go.Proofs.Ytflfiobicapopaa
open Go.RowKit

/-- A slice is appended to one of ours, as one step of a region that draws. -/
theorem step_append_headsJ {E : World → Value → List (List UInt8) → Prop} {w W : World} {ops : Array Oper} {o : Oper} {a : Act} {K : Act → World → Prop} {Q : Exit → Act → World → Prop} {Ep : Prop}
    (hg : o.guard = none) (s x : Operand) (hop : o.op = Op.call { callee := Callee.builtin Builtin.append, args := #[s, x], argTypes := #[33, 33] })
    (hone : ∀ u y, E w u y → u.oneCell' = true)
    (v : Value) (xs : List (List (List UInt8))) (hsv : a.eval s = v) (hO : HeadsO E 23 w v xs W) (ya : Option Addr) (n c : Nat) (ys : List (List (List UInt8))) (hx : a.eval x = .slice ya n c) (hY : ListAt (fun _ => E w) W (.slice ya n c) ys) (hl : xs.length + ys.length ≤ 4194304)
    (hK : ∀ v' W', HeadsO E 23 w v' (xs ++ ys) W' → (∀ k, k < W.heap.size → v.ownBlock ≠ some k → W'.heap[k]? = W.heap[k]?) → W.heap.size ≤ W'.heap.size → K (a.put o.dst v') W') :
    if Region.wanted o (yielded ops a.tmps) = true then Oper.wp Try.prog o a W K Q else Ep := by
  have hw : Region.wanted o (yielded ops a.tmps) = true := by simp [Region.wanted, hg]
  rw [if_pos hw]
  have hu := Try.underlying33
  obtain ⟨i, hi, hz, hs, hb⟩ := info_parts infoRows0
  obtain ⟨⟨vs, h1, h2⟩, hbb⟩ := hO
  have hyl : ys.length = n := by obtain ⟨_, _, hv, _⟩ := hY.form; simp only [Value.slice.injEq] at hv; exact hv.2.1.symm
  obtain ⟨us, u1, u2, u3, u4⟩ := hY.cells hyl
  have hvl : vs.length = xs.length := by have := h1.1; omega
  have fin : ∀ (v' : Value) (W' : World), (Builtin.append_ #[33, 33] o.type #[v, .slice ya n c]).run Try.prog W = .ok v' W' → HeadsO E 23 w v' (xs ++ ys) W' → (∀ k, k < W.heap.size → v.ownBlock ≠ some k → W'.heap[k]? = W.heap[k]?) → W.heap.size ≤ W'.heap.size → Oper.wp Try.prog o a W K Q := fun v' W' hrun h' hk hsz => by
    unfold Oper.wp
    simp [execOp, hop, resolve, invoke, builtin, hsv, hx, hrun, Result.andThen]
    exact hK v' W' h' hk hsz
  have both : ∀ (j : Nat) y, (xs ++ ys)[j]? = some y → ∃ u, (vs ++ us)[j]? = some u ∧ E w u y := fun j y hj => by
    by_cases hjx : j < xs.length
    · rw [List.getElem?_append_left hjx] at hj
      obtain ⟨u, e1, e2⟩ := h2 j y hj
      exact ⟨u, by rw [List.getElem?_append_left (by omega)]; exact e1, e2⟩
    · rw [List.getElem?_append_right (by omega)] at hj
      obtain ⟨u, e1, e2⟩ := u2 _ y hj
      exact ⟨u, by rw [List.getElem?_append_right (by omega), hvl]; exact e1, e2⟩
  cases ya with
  | none =>
    have hn0 : n = 0 := by
      rcases u4 with h | ⟨ad, h, _⟩
      · exact h
      · cases h
    have hy0 : ys = [] := List.eq_nil_of_length_eq_zero (by omega)
    subst hn0 hy0
    refine fin v W ?_ ⟨⟨vs, by rw [List.append_nil]; exact h1, by rw [List.append_nil]; exact h2⟩, hbb⟩ (fun _ _ _ => rfl) (Nat.le_refl _)
    rcases h1.2 with ⟨e1, e2⟩ | ⟨g, cap, cur, e1, _, _, hnc, _⟩
    · rw [e1]
      simp [Builtin.append_, run_underlying hu, sizeOf, typeInfo, hi, Builtin.lenOf, Builtin.firstCells]
    · rw [e1]
      simp [Builtin.append_, run_underlying hu, sizeOf, typeInfo, hi, Builtin.lenOf, Builtin.firstCells, hnc, storeCells]
  | some ad =>
    have hc : ∀ j u, us[j]? = some u → W.cell? (ad.add j) = some u := fun j u hj => by
      rcases u4 with h | ⟨ad', h, h'⟩
      · rw [List.eq_nil_of_length_eq_zero (by omega : us.length = 0)] at hj; cases hj
      · cases h
        exact h' j u hj
    obtain ⟨v', W', hrun, r1, r2, _⟩ := run_append_own (P := Try.prog) W w.heap.size 33 o.type 23 i (.slice none 0 0) 1 24 hu hi hz hs hb rfl (by decide) v xs.length vs h1 ad n c us (by omega) hc (fun u hu' => by obtain ⟨y, hy⟩ := u3 u hu'; exact hone u y hy) (by unfold maxLen; omega) (by omega) hbb.size
    refine fin v' W' hrun ⟨⟨vs ++ us, by rw [List.length_append, hyl]; exact r1, both⟩, ?_⟩ (fun k hk hne => r2.block k hk (fun e => hne e.symm)) r2.size
    exact ⟨r2.os.trans hbb.os, r2.tape.trans hbb.tape, r2.output.trans hbb.output, Nat.le_trans hbb.size r2.size, fun k hk => (r2.block k (Nat.lt_of_lt_of_le hk hbb.size) (fun e => by have := (h1.lt k e.symm).1; omega)).trans (hbb.block k hk)⟩

theorem rows_oneJ {w : World} {u : Value} {x : List (List UInt8)} (h : RowsAt w u x) : u.oneCell' = true := by
  obtain ⟨a, c, rfl, _⟩ := h.form
  rfl
/-- The memory in which things are kept. -/
def KF (w W : World) (L : List (Value × Thing)) (F : Nat → Prop) : Prop := (∀ k, F k → k < W.heap.size) ∧ (∀ k, k < w.heap.size → F k) ∧ ∀ q ∈ L, q.2.In F W q.1
/-- A value that reads as rows wherever they are kept. -/
def KE (w W : World) (L : List (Value × Thing)) (_ : World) (v : Value) (x : List (List UInt8)) : Prop := (∀ F, KF w W L F → RowsIn' F W v x) ∧ v.oneCell' = true

section
variable {w W Wc : World} {L : List (Value × Thing)} {M : List (Nat × Obj)} {p : Nat} {A : AD} {u : Value} {l : List (List (List UInt8))} {rows : List (List UInt8)}
theorem Kj.kf (h : Kj w W L M p A) : ∃ F, KF w W L F := by
  obtain ⟨D, v, F, h1, h2, h3, h4, h5, h6⟩ := h.dsk
  exact ⟨F, fun k hk => (h4 k hk).1, h5, h6⟩
theorem batsE (h : Kj w W L M p A) (hm : (u, Thing.bats l) ∈ L) (hb : Below W.heap.size W Wc) : ListAt (fun _ => KE w W L W) Wc u l := by
  obtain ⟨F0, hF0⟩ := h.kf
  have h0 : BatsIn F0 W u l := hF0.2.2 _ hm
  rcases h0 with h0 | ⟨b, o, c, hv, hl, _, hr⟩
  · exact .inl h0
  · refine .inr ⟨b, o, c, hv, hl, fun i x hx => ?_⟩
    obtain ⟨v, c1, c2⟩ := hr i x hx
    refine ⟨v, (hb.cell (p := ⟨b, o + i, none⟩) (World.block_lt_of_cell? _ _ c1)).trans c1, fun F hF => ?_, rows_oneJ (RowsIn'.plain c2)⟩
    have h1 : BatsIn F W u l := hF.2.2 _ hm
    rcases h1 with ⟨_, e⟩ | ⟨b', o', c', hv', _, _, hr'⟩
    · rw [e] at hx; cases hx
    · rw [hv] at hv'
      simp only [Value.slice.injEq, Option.some.injEq, Addr.mk.injEq] at hv'
      obtain ⟨⟨rfl, rfl, _⟩, _, _⟩ := hv'
      obtain ⟨v', c1', c2'⟩ := hr' i x hx
      rw [c1] at c1'
      cases c1'
      exact c2'
theorem rowsE (h : Below w.heap.size w W) (hr : RowsAt w u rows) : KE w W L W u rows := by
  refine ⟨fun F hF => ?_, rows_oneJ hr⟩
  exact (rows_in hr (F := fun k => k < w.heap.size) fun _ hk => hk).agree (fun k hk => h.block k hk) hF.2.1
theorem headsE {E : World → Value → List (List UInt8) → Prop} (hb : Below W.heap.size W Wc) {g : Nat} (hg : Wc.heap[g]? = some (.cells #[] 23 (0, 0))) (hle : W.heap.size ≤ g) : HeadsO E 23 W (.slice (some ⟨g, 0, none⟩) 0 0) [] Wc :=
  ⟨⟨[], ⟨by simp, .inr ⟨g, 0, #[], rfl, hle, hg, Nat.le_refl _, by decide, rfl, by simp⟩⟩, fun i x hx => (by cases hx)⟩, hb⟩
theorem HeadsO.base {E : Value → List (List UInt8) → Prop} {W0 : World} (h : HeadsO (fun _ => E) 23 W u l Wc) (hb : Below W0.heap.size W0 W) : HeadsO (fun _ => E) 23 W0 u l Wc := by
  obtain ⟨⟨vs, ⟨h1, h1'⟩, h2⟩, hb'⟩ := h
  refine ⟨⟨vs, ⟨h1, ?_⟩, h2⟩, hb.trans (hb'.mono hb.size)⟩
  rcases h1' with h | ⟨g, cap, cur, e, g1, g2⟩
  · exact .inl h
  · exact .inr ⟨g, cap, cur, e, Nat.le_trans hb.size g1, g2⟩
theorem HeadsO.batsIn {F : Nat → Prop} (h : HeadsO (KE w W L) 23 W u l Wc) (hF : KF w W L F) : BatsIn (fun k => F k ∨ (W.heap.size ≤ k ∧ k < Wc.heap.size)) Wc u l := by
  obtain ⟨⟨vs, h1, h2⟩, hb⟩ := h
  rcases h1.2 with ⟨rfl, h0⟩ | ⟨g, cap, cur, rfl, g1, g2, h4, _⟩
  · exact .inl ⟨⟨_, _, rfl⟩, List.eq_nil_of_length_eq_zero h0⟩
  · refine .inr ⟨g, 0, cap, rfl, h4, .inr ⟨g1, (Array.getElem?_eq_some_iff.1 g2).1⟩, fun i x hx => ?_⟩
    obtain ⟨v, e1, e2⟩ := h2 i x hx
    have hc := h1.cells (g := g) rfl _ _ e1
    rw [Addr.add_mid] at hc
    exact ⟨v, hc, (e2.1 F hF).agree (fun k hk => hb.block k (hF.1 k hk)) fun _ hk => .inl hk⟩
theorem one_batsIn {F : Nat → Prop} {g : Nat} {t : TypeId} (hE : KE w W L W u rows) (hF : KF w W L F) (hb : Below W.heap.size W Wc) (hg : Wc.heap[g]? = some (.cells #[u] t (0, 0))) (hle : W.heap.size ≤ g) : BatsIn (fun k => F k ∨ (W.heap.size ≤ k ∧ k < Wc.heap.size)) Wc (.slice (some ⟨g, 0, none⟩) 1 1) [rows] := by
  refine .inr ⟨g, 0, 1, rfl, Nat.le_refl _, .inr ⟨hle, (Array.getElem?_eq_some_iff.1 hg).1⟩, fun i y hy => ?_⟩
  match i, hy with
  | 0, hy =>
    cases hy
    exact ⟨u, cell_of_row _ _ 0 _ _ _ hg, (hE.1 F hF).agree (fun k hk => hb.block k (hF.1 k hk)) fun _ hk => .inl hk⟩
end

theorem heapA (w : World) (o : Obj) : (w.alloc o).heap = w.heap.push o := rfl
theorem heapD (w : World) : w.drew.heap = w.heap := rfl

set_option linter.unusedSimpArgs false in
set_option maxRecDepth 100000 in
set_option maxHeartbeats 8000000 in
theorem behind_walk {E : Value → List (List UInt8) → Prop} (hone : ∀ u y, E u y → u.oneCell' = true) (W : World) (ua : Option Addr) (n uc : Nat) (l : List (List (List UInt8))) (sa : Option Addr) (sn sc : Nat) (rows : List (List UInt8)) (turn crash : Bool) (at' part : Nat) (k0 k1 k2 k3 : Int) (again : Nat) (o0 o1 o2 o3 : Int)
    (hlen : l.length = n) (hn : n ≤ 1048576) (hl : ∀ Wc, Below W.heap.size W Wc → ListAt (fun _ => E) Wc (.slice ua n uc) l) (hr : E (.slice sa sn sc) rows) :
    Calls Try.prog 15 #[.slice ua n uc, .agg #[.slice sa sn sc, .bool turn, .bool crash, .int .u8 ((at' : Nat) : Int), .int .u8 ((part : Nat) : Int), .int .i64 k0, .int .i64 k1, .int .i64 k2, .int .i64 k3, .int .u8 ((again : Nat) : Int), .int .i64 o0, .int .i64 o1, .int .i64 o2, .int .i64 o3]] W
      fun x W' => (turn = true ∧ ∃ g, x = .returned (.slice (some ⟨g, 0, none⟩) 1 1) ∧ Below W.heap.size W W' ∧ W.heap.size ≤ g ∧ W'.heap[g]? = some (.cells #[.slice sa sn sc] 23 (0, 0))) ∨
        (turn = false ∧ ∃ v, x = .returned v ∧ HeadsO (fun _ => E) 23 W v (l ++ [rows]) W') := by
  have HL := hide hl
  have HR := hide hr
  have HO := hide hone
  have HN := hide hlen
  clear hl hr hone hlen
  go_enter Try.func15, Try.ntmps15
  go_upto_region 1 with fail
  have hblk := heap_alloc_new W (.cells #[.slice sa sn sc, .bool turn, .bool crash, .int .u8 ((at' : Nat) : Int), .int .u8 ((part : Nat) : Int), .int .i64 k0, .int .i64 k1, .int .i64 k2, .int .i64 k3, .int .u8 ((again : Nat) : Int), .int .i64 o0, .int .i64 o1, .int .i64 o2, .int .i64 o3] 26)
  have HB1 : Hid (Below W.heap.size W (W.alloc (.cells #[.slice sa sn sc, .bool turn, .bool crash, .int .u8 ((at' : Nat) : Int), .int .u8 ((part : Nat) : Int), .int .i64 k0, .int .i64 k1, .int .i64 k2, .int .i64 k3, .int .u8 ((again : Nat) : Int), .int .i64 o0, .int .i64 o1, .int .i64 o2, .int .i64 o3] 26))) := (Below.refl _ W).alloc (Nat.le_refl _) _
  generalize W.alloc (.cells #[.slice sa sn sc, .bool turn, .bool crash, .int .u8 ((at' : Nat) : Int), .int .u8 ((part : Nat) : Int), .int .i64 k0, .int .i64 k1, .int .i64 k2, .int .i64 k3, .int .u8 ((again : Nat) : Int), .int .i64 o0, .int .i64 o1, .int .i64 o2, .int .i64 o3] 26) = W1 at hblk HB1 ⊢
  obtain ⟨bx, hbx⟩ : ∃ bx, W.heap.size = bx := ⟨_, rfl⟩
  rw [hbx] at hblk
  have c0 : W1.cell? ⟨bx, 0, none⟩ = some (.slice sa sn sc) := cell_of_row _ _ 0 _ _ _ hblk
  have c1 : W1.cell? ⟨bx, 1, none⟩ = some (.bool turn) := cell_of_row _ _ 1 _ _ _ hblk
  have HBX := hide hbx
  rw [hbx]
  clear hblk hbx
  cases turn
  case true =>
    go_wp2_with fail
    go_ret
    exact ⟨W1.heap.size, rfl, (unhide HB1).alloc (unhide HB1).size _, (unhide HB1).size, heap_alloc_new W1 _⟩
  case false =>
    go_upto_region 3 with fail
    have HKS : Hid (∀ X, Below W1.heap.size W1 X → X.cell? ⟨bx, 0, none⟩ = some (.slice sa sn sc) ∧ Below W1.heap.size W1 X) := fun X hb' => ⟨(hb'.cell (p := ⟨bx, 0, none⟩) (World.block_lt_of_cell? _ _ c0)).trans c0, hb'⟩
    go_region_held3 (fun X => X.cell? ⟨bx, 0, none⟩ = some (.slice sa sn sc) ∧ Below W1.heap.size W1 X)
      ((refine unhide HKS _ ?_; repeat' (first | assumption | exact Below.refl _ _ | refine Below.drew ?_ | refine Below.alloc ?_ ?_ _ | (have q2 := hBA.size; simp; omega) | (have q2 := hBA.size; dsimp only; omega) | (simp; done) | (simp; omega) | (dsimp only; omega))))
      (first
        | (refine step_append_headsJ (E := fun _ => E) (w := W1) rfl (.tmp 10) (.tmp 11) rfl (unhide HO) _ [] rfl (headsE (by exact (by assumption : _ ∧ Below W1.heap.size W1 _).2) (by simp only [heapA, heapD, Array.getElem?_push]; first | done | (simp; done) | (simp; omega)) (by first | (simp only [heapA, heapD, Array.size_push]; omega) | omega | (simp; done) | (simp; omega))) ua n uc l rfl (unhide HL _ ((unhide HB1).trans ((by assumption : _ ∧ Below W1.heap.size W1 _).2.mono (unhide HB1).size))) (by have := unhide HN; simp; omega) ?_; intro v1 W2 hO1 hk1 hz1; have hBA := hO1.bb; have HO1 := hide hO1; have HBK := hide hk1; have HZ1 := hide hz1; clear hO1 hk1 hz1)
        | (refine step_append_headsJ (E := fun _ => E) (w := W1) rfl (.tmp 12) (.tmp 15) rfl (unhide HO) _ ([] ++ l) rfl ((unhide HO1).later (by repeat' (first | assumption | exact Below.refl _ _ | refine Below.drew ?_ | refine Below.alloc ?_ ?_ _ | (have q2 := hBA.size; simp; omega) | (have q2 := hBA.size; dsimp only; omega) | (simp; done) | (simp; omega) | (dsimp only; omega)))) _ _ _ [rows] rfl (ListAt.one (E := fun _ => E) (w := W1) (t := 23) (by first | (simp only [heapA, heapD, Array.getElem?_push]; first | done | (simp; done) | (simp; omega)) | (refine (unhide HBK _ (by first | (simp only [heapA, heapD, Array.size_push]; omega) | omega | (simp; done) | (simp; omega)) (by simp [Act.eval, Value.ownBlock])).trans ?_; simp only [heapA, heapD, Array.getElem?_push]; first | done | (simp; done) | (simp; omega))) (unhide HR)) (by have := unhide HN; simp; omega) ?_; intro v2 W3 hO2 hk2 hz2; have hBB := hO2.bb; have HO2 := hide hO2; clear hO2 hk2 hz2))
    all_goals (
      go_wp2_with fail
      go_ret
      exact ⟨_, rfl, (unhide HO2).base (unhide HB1)⟩)

/-- What a journal is behind a batch. -/
def bhD (l : List (List (List UInt8))) (rows : List (List UInt8)) (turn : Bool) : List (List (List UInt8)) := if turn then [rows] else l ++ [rows]

section
variable {w W : World} {L : List (Value × Thing)} {M : List (Nat × Obj)} {p : Nat} {A : AD} {h : HeadD} {l : List (List (List UInt8))} {rows : List (List UInt8)}
theorem kjBehind (hk : Kj w W L M p A) (ua : Option Addr) (uc : Nat) (hm : (.slice ua l.length uc, Thing.bats l) ∈ L) (hl : l.length ≤ 1048576) (sa : Option Addr) (sn sc : Nat) (hr : RowsAt w (.slice sa sn sc) rows) (turn crash : Bool) (at' part : Nat) (k0 k1 k2 k3 : Int) (again : Nat) (o0 o1 o2 o3 : Int) :
    Calls Try.prog 15 #[.slice ua l.length uc, .agg #[.slice sa sn sc, .bool turn, .bool crash, .int .u8 ((at' : Nat) : Int), .int .u8 ((part : Nat) : Int), .int .i64 k0, .int .i64 k1, .int .i64 k2, .int .i64 k3, .int .u8 ((again : Nat) : Int), .int .i64 o0, .int .i64 o1, .int .i64 o2, .int .i64 o3]] W fun x W' => ∃ a c, x = .returned (.slice a (bhD l rows turn).length c) ∧ Kj w W' ((.slice a (bhD l rows turn).length c, Thing.bats (bhD l rows turn)) :: L) M p A := by
  refine (behind_walk (E := KE w W L W) (fun _ _ h => h.2) W ua l.length uc l sa sn sc rows turn crash at' part k0 k1 k2 k3 again o0 o1 o2 o3 rfl hl (fun Wc hb => batsE hk hm hb) (rowsE hk.bb hr)).mono ?_
  rintro x W' (⟨rfl, g, rfl, hb, hle, hg⟩ | ⟨rfl, v, rfl, hO⟩)
  · exact ⟨_, _, rfl, hk.add hb _ (.bats [rows]) fun F h1 h2 h3 => one_batsIn (t := 23) (rowsE hk.bb hr) ⟨h1, h2, h3⟩ hb hg hle⟩
  · obtain ⟨a, c, rfl⟩ := hO.form
    exact ⟨_, _, rfl, hk.add hO.bb _ (.bats (l ++ [rows])) fun F h1 h2 h3 => HeadsO.batsIn (w := w) (W := W) (L := L) hO ⟨h1, h2, h3⟩⟩

theorem later_s (h1 : h.s + 1 < 18446744073709551616) : h.later.next.s = h.s + 1 := Nat.mod_eq_of_lt h1
theorem later_e (h1 : h.e + 1 < 18446744073709551616) : h.later.next.e = h.e + 1 := Nat.mod_eq_of_lt h1
theorem Fresh'.fuseFull (F : Fresh' A) (c k : Int) : Full (fuD A c k) := by
  have e : fuD A c k = A.fused c k := by simp [fuD, F.live]
  rw [e]
  exact fun i hi => F.full i hi

set_option maxRecDepth 100000 in
set_option maxHeartbeats 8000000 in
theorem kjOpened (hk : Kj w W L M p A) (S : St A h l) (Fr : Fresh' A) (hs : h.s + 4 < 18446744073709551616) (he : h.e + 4 < 18446744073709551616) (sa : Option Addr) (sn sc : Nat) (turn crash : Bool) (at' part : Nat) (k0 k1 k2 k3 : Int) (again : Nat) (o0 o1 o2 o3 : Int) (h256 : again < 256 ∧ part < 256) :
    Calls Try.prog 17 #[.pointer (some ⟨p, 0, none⟩), .agg #[.slice sa sn sc, .bool turn, .bool crash, .int .u8 ((at' : Nat) : Int), .int .u8 ((part : Nat) : Int), .int .i64 k0, .int .i64 k1, .int .i64 k2, .int .i64 k3, .int .u8 ((again : Nat) : Int), .int .i64 o0, .int .i64 o1, .int .i64 o2, .int .i64 o3]] W fun x W' => ∃ B g va vc h2, x = .returned (.tuple #[.pointer (some ⟨g, 0, none⟩), .slice va l.length vc, .bool true]) ∧ B.cap = A.cap ∧ B.calls = -1 ∧ Jr w W' ((.slice va l.length vc, Thing.bats l) :: L) M g p B h2 l ∧ h.e < h2.e ∧ h2.e ≤ h.e + 2 ∧ h2.s ≤ h.s + 2 := by
  have HK := hide hk
  have HS := hide S
  have HF := hide Fr
  have hb2 : Hid (h.s + 2 < 18446744073709551616) := by show _ < _; omega
  have HSE : Hid (h.s + 4 < 18446744073709551616 ∧ h.e + 4 < 18446744073709551616) := ⟨hs, he⟩
  have hlat : Hid (h.later.next.s = h.s + 1 ∧ h.later.next.e = h.e + 1) := ⟨later_s (by omega), later_e (by omega)⟩
  clear hk S Fr hs he
  go_enter Try.func17, Try.ntmps17
  go_upto_region 1 with fail
  have HK1 := hide ((unhide HK).new (.cells #[.slice sa sn sc, .bool turn, .bool crash, .int .u8 ((at' : Nat) : Int), .int .u8 ((part : Nat) : Int), .int .i64 k0, .int .i64 k1, .int .i64 k2, .int .i64 k3, .int .u8 ((again : Nat) : Int), .int .i64 o0, .int .i64 o1, .int .i64 o2, .int .i64 o3] 26))
  generalize W.alloc (.cells #[.slice sa sn sc, .bool turn, .bool crash, .int .u8 ((at' : Nat) : Int), .int .u8 ((part : Nat) : Int), .int .i64 k0, .int .i64 k1, .int .i64 k2, .int .i64 k3, .int .u8 ((again : Nat) : Int), .int .i64 o0, .int .i64 o1, .int .i64 o2, .int .i64 o3] 26) = W1 at HK1 ⊢
  generalize W.heap.size = bx at HK1 ⊢
  clear HK
  have BL : Hid (∀ W2 L2 A2, Kj w W2 L2 ((bx, Obj.cells #[.slice sa sn sc, .bool turn, .bool crash, .int .u8 ((at' : Nat) : Int), .int .u8 ((part : Nat) : Int), .int .i64 k0, .int .i64 k1, .int .i64 k2, .int .i64 k3, .int .u8 ((again : Nat) : Int), .int .i64 o0, .int .i64 o1, .int .i64 o2, .int .i64 o3] 26 (0, 0)) :: M) p A2 → W2.cell? ⟨bx, 4, none⟩ = some (.int .u8 ((part : Nat) : Int)) ∧ W2.cell? ⟨bx, 9, none⟩ = some (.int .u8 ((again : Nat) : Int)) ∧ W2.cell? ⟨bx, 10, none⟩ = some (.int .i64 o0) ∧ W2.cell? ⟨bx, 11, none⟩ = some (.int .i64 o1) ∧ W2.cell? ⟨bx, 12, none⟩ = some (.int .i64 o2) ∧ W2.cell? ⟨bx, 13, none⟩ = some (.int .i64 o3)) := fun W2 L2 A2 H => by
    have hm := List.mem_cons_self (a := (bx, Obj.cells #[.slice sa sn sc, .bool turn, .bool crash, .int .u8 ((at' : Nat) : Int), .int .u8 ((part : Nat) : Int), .int .i64 k0, .int .i64 k1, .int .i64 k2, .int .i64 k3, .int .u8 ((again : Nat) : Int), .int .i64 o0, .int .i64 o1, .int .i64 o2, .int .i64 o3] 26 (0, 0))) (l := M)
    exact ⟨H.cell hm 4, H.cell hm 9, H.cell hm 10, H.cell hm 11, H.cell hm 12, H.cell hm 13⟩
  obtain ⟨z4, z9, za, zb, zc, zd⟩ := unhide BL _ _ _ (unhide HK1)
  have FIN : Hid (∀ W2 L2 g B h2, Jr w W2 L2 ((bx, Obj.cells #[.slice sa sn sc, .bool turn, .bool crash, .int .u8 ((at' : Nat) : Int), .int .u8 ((part : Nat) : Int), .int .i64 k0, .int .i64 k1, .int .i64 k2, .int .i64 k3, .int .u8 ((again : Nat) : Int), .int .i64 o0, .int .i64 o1, .int .i64 o2, .int .i64 o3] 26 (0, 0)) :: M) g p B h2 l → Jr w W2 L2 M g p B h2 l) := fun W2 L2 g B h2 H => ⟨H.kj.sub (List.Sublist.cons_cons _ (List.sublist_cons_self _ _)), H.run⟩
  have ha256 := h256.1
  have hp256 := h256.2
  clear h256
  by_cases hag : again < 6
  · have hd : decide (((again : Nat) : Int) < 6) = true := decide_eq_true (by omega)
    have HAG : Hid (again < 6) := hag
    clear hag
    go_wp2_with fail
    refine (kjFuse (unhide HK1) _ _ (by omega)).mono ?_
    rintro x W2 ⟨rfl, hk⟩
    have HK2 := hide hk
    clear hk HK1 z4 z9 za zb zc zd hd
    go_wp2_with fail
    refine (openAny (unhide HK2) ((unhide HS).fuse _ _) (unhide hb2)).mono ?_
    rintro x W3 ⟨B, hcap, hcalm, ⟨g, va, vc, rfl, hJ⟩ | ⟨hn, rfl, hk, hdead, hback⟩⟩
    · have HJ3 := hide hJ
      have HP3 := hide (hcap.trans (fuse_cap _ _))
      clear hJ hcap hcalm HK2
      go_wp2_with fail
      refine (kjFuse (unhide HJ3).kj (-1) 0 (by decide)).mono ?_
      rintro x W4 ⟨rfl, hk⟩
      have HJ4 := hide (Jr.mk hk ((unhide HJ3).run.fuse (-1) 0))
      have HC4 := hide (fuse_calls (unhide HJ3).run.live (-1) 0)
      have HP4 := hide ((fuse_cap (A := B) (-1) 0).trans (unhide HP3))
      clear hk HJ3 HP3
      go_wp2_with fail
      go_ret3
      exact ⟨_, g, va, vc, _, rfl, unhide HP4, unhide HC4, unhide FIN _ _ _ _ _ (unhide HJ4), by rw [(unhide hlat).2]; omega, by rw [(unhide hlat).2]; omega, by rw [(unhide hlat).1]; omega⟩
    · have HK3 := hide hk
      have HP3 := hide (hcap.trans (fuse_cap _ _))
      have HBK := hide (hback ((unhide HF).fuseFull _ _))
      obtain ⟨z4, z9, za, zb, zc, zd⟩ := unhide BL _ _ _ (unhide HK3)
      clear hk hcap hcalm hn hdead hback HK2
      go_wp2_with fail
      refine (kjCrash (unhide HK3) o0 o1 o2 o3).mono ?_
      rintro x W4 ⟨rfl, hk⟩
      obtain ⟨h', l', ⟨hh, el⟩, hS, hFr⟩ := unhide HBK o0 o1 o2 o3
      subst el
      have HK4 := hide hk
      have HS4 := hide hS
      have HF4 := hide hFr
      have HH4 : Hid (h.s ≤ h'.s ∧ h'.s ≤ h.s + 1 ∧ h.e ≤ h'.e ∧ h'.e ≤ h.e + 1) := by
        show _ ∧ _ ∧ _ ∧ _
        rcases hh with e | e
        · rw [e]; omega
        · rw [e, (unhide hlat).1, (unhide hlat).2]; omega
      clear hk hS hFr hh HK3 HBK z4 z9 za zb zc zd
      go_wp2_with fail
      refine (openCalm (unhide HK4) (unhide HS4) (unhide HF4).calls (by have := unhide HSE; have := unhide HH4; omega)).mono ?_
      rintro x W5 ⟨B5, g, va, vc, rfl, hcap, hcalls, hJ⟩
      have HJ5 := hide hJ
      have HC5 := hide hcalls
      have HP5 := hide (hcap.trans (unhide HP3))
      have hl5 : Hid (h'.later.next.s = h'.s + 1 ∧ h'.later.next.e = h'.e + 1) := ⟨later_s (by have := unhide HSE; have := unhide HH4; omega), later_e (by have := unhide HSE; have := unhide HH4; omega)⟩
      clear hJ hcalls hcap HK4 HS4 HF4 HP3
      go_wp2_with fail
      go_ret3
      exact ⟨_, g, va, vc, _, rfl, unhide HP5, unhide HC5, unhide FIN _ _ _ _ _ (unhide HJ5), by rw [(unhide hl5).2]; have := unhide HH4; omega, by rw [(unhide hl5).2]; have := unhide HH4; omega, by rw [(unhide hl5).1]; have := unhide HH4; omega⟩
  · have hd : decide (((again : Nat) : Int) < 6) = false := decide_eq_false (by omega)
    clear hag
    go_wp2_with fail
    refine (openCalm (unhide HK1) (unhide HS) (unhide HF).calls (unhide hb2)).mono ?_
    rintro x W5 ⟨B5, g, va, vc, rfl, hcap, hcalls, hJ⟩
    have HJ5 := hide hJ
    have HC5 := hide hcalls
    have HP5 := hide hcap
    clear hJ hcalls hcap HK1 HS HF z4 z9 za zb zc zd hd
    go_wp2_with fail
    go_ret3
    exact ⟨_, g, va, vc, _, rfl, unhide HP5, unhide HC5, unhide FIN _ _ _ _ _ (unhide HJ5), by rw [(unhide hlat).2]; omega, by rw [(unhide hlat).2]; omega, by rw [(unhide hlat).1]; omega⟩
end
end Go.Proofs.Ytflfiobicapopaa
