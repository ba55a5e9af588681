/- The landed package batch: Scan. No statement of the seat is proved here. -/
import Derived.Test.YtbbglgfgelnncaaBatchImplA
import Derived.Test.YtbbglgfgelnncaaRecImplTake
import Derived.Test.YtbbglgfgelnncaaGenHeads
namespace Go.Proofs.Ytbbglgfgelnncaa
open Go.RowKit

/-- What grows is of another type. -/
theorem grown_type {W W' : World} {base size : Nat} {e : TypeId} {v : Value} {n : Nat} {xs : List Value} (h : W.ownsRow base e size v n xs) (hg : W.grownBy W' v.ownBlock) {t : TypeId} (ht : t ≠ e) : ∀ (k : Nat) (cs : Array Value) (f : Nat × Nat), W.heap[k]? = some (Obj.cells cs t f) → W'.heap[k]? = W.heap[k]? := fun k cs f hk => by
  refine hg.block k (Array.getElem?_eq_some_iff.1 hk).1 fun e => ?_
  rcases h.2 with ⟨e1, _⟩ | ⟨g2, _, _, e1, _, e3, _⟩
  · rw [e1] at e; cases e
  · rw [e1] at e
    have e' : k = g2 := by simpa [Value.ownBlock] using e
    subst e'
    rw [e3] at hk
    simp only [Option.some.injEq, Obj.cells.injEq] at hk
    exact ht hk.2.1.symm

/-- Rows of bytes, all of it new since w. -/
structure RowsN (w : World) (v : Value) (rows : List (List UInt8)) (W : World) : Prop where
  own : ∃ vs, W.ownsRow 0 23 1 v rows.length vs ∧ ∀ (i : Nat) x, rows[i]? = some x → ∃ u, vs[i]? = some u ∧ Own w u x W
  new : ∀ k, v.ownBlock = some k → w.heap.size ≤ k
theorem RowsN.start (w W : World) : RowsN w (.slice none 0 0) [] W := ⟨⟨[], World.ownsRow_nil _ _ _ _, fun i x hx => (by cases hx)⟩, fun k hk => (by cases hk)⟩
theorem RowsN.keep {w W W' : World} {v : Value} {rows : List (List UInt8)} (h : RowsN w v rows W) (hb : Below w.heap.size w W') (hk : ∀ k, v.ownBlock = some k → k < W.heap.size → W'.heap[k]? = W.heap[k]?) (hu : ∀ (k : Nat) (cs : Array Value) (f : Nat × Nat), W.heap[k]? = some (Obj.cells cs 5 f) → W'.heap[k]? = W.heap[k]?) : RowsN w v rows W' := by
  obtain ⟨⟨vs, h1, h2⟩, h3⟩ := h
  exact ⟨⟨vs, row_keeps h1 fun k e => hk k e (h1.lt k e).2, fun i x hx => by obtain ⟨u, e1, e2⟩ := h2 i x hx; exact ⟨u, e1, e2.keepT hb hu⟩⟩, h3⟩
theorem RowsN.rowsAt {w W : World} {v : Value} {rows : List (List UInt8)} (h : RowsN w v rows W) : RowsAt W v rows := by
  obtain ⟨⟨vs, h1, h2⟩, _⟩ := h
  exact row_at h1 fun i x hx => by obtain ⟨u, e1, e2⟩ := h2 i x hx; exact ⟨u, e1, bytes_of_owns e2.own⟩
theorem RowsN.form {w W : World} {v : Value} {rows : List (List UInt8)} (h : RowsN w v rows W) : ∃ a c, v = .slice a rows.length c := by
  obtain ⟨⟨vs, h1, _⟩, _⟩ := h
  rcases h1.2 with ⟨rfl, h0⟩ | ⟨g, cap, cur, rfl, _⟩
  · exact ⟨_, _, by rw [h0]⟩
  · exact ⟨_, _, rfl⟩
theorem RowsN.lt {w W : World} {v : Value} {rows : List (List UInt8)} (h : RowsN w v rows W) : ∀ k, v.ownBlock = some k → k < W.heap.size := by
  obtain ⟨⟨vs, h1, _⟩, _⟩ := h
  exact fun k hk => (h1.lt k hk).2

/-- Batches that are told, and rows that are kept, all of it new since w. -/
structure ScanN (w : World) (vo : Value) (out : List (List (List UInt8))) (vk : Value) (kept : List (List UInt8)) (W : World) : Prop where
  bb : Below w.heap.size w W
  rows : RowsN w vk kept W
  outs : ∃ vs, W.ownsRow 0 22 1 vo out.length vs ∧ ∀ (i : Nat) x, out[i]? = some x → ∃ u, vs[i]? = some u ∧ RowsN w u x W ∧ ∀ k, u.ownBlock = some k → vk.ownBlock ≠ some k
  new : ∀ k, vo.ownBlock = some k → w.heap.size ≤ k
theorem ScanN.start (w : World) : ScanN w (.slice none 0 0) [] (.slice none 0 0) [] w := ⟨Below.refl _ w, RowsN.start w w, ⟨[], World.ownsRow_nil _ _ _ _, fun i x hx => (by cases hx)⟩, fun k hk => (by cases hk)⟩
theorem ScanN.later {w W W' : World} {vo vk : Value} {out : List (List (List UInt8))} {kept : List (List UInt8)} (h : ScanN w vo out vk kept W) (hb : Below W.heap.size W W') : ScanN w vo out vk kept W' := by
  obtain ⟨vs, h1, h2⟩ := h.outs
  have hb' := h.bb.trans (hb.mono h.bb.size)
  have hu : ∀ (k : Nat) (cs : Array Value) (f : Nat × Nat), W.heap[k]? = some (Obj.cells cs 5 f) → W'.heap[k]? = W.heap[k]? := fun k cs f hk => hb.block k (Array.getElem?_eq_some_iff.1 hk).1
  exact ⟨hb', h.rows.keep hb' (fun k _ hk => hb.block k hk) hu, ⟨vs, row_keeps h1 fun k e => hb.block k (h1.lt k e).2, fun i x hx => by
    obtain ⟨u, e1, e2, e3⟩ := h2 i x hx
    exact ⟨u, e1, e2.keep hb' (fun k _ hk => hb.block k hk) hu, e3⟩⟩, h.new⟩
theorem ScanN.alloc {w W : World} {vo vk : Value} {out : List (List (List UInt8))} {kept : List (List UInt8)} (h : ScanN w vo out vk kept W) (o : Obj) : ScanN w vo out vk kept (W.alloc o) := h.later ((Below.refl _ W).alloc (Nat.le_refl _) o)
theorem ScanN.batches {w W : World} {vo vk : Value} {out : List (List (List UInt8))} {kept : List (List UInt8)} (h : ScanN w vo out vk kept W) : BatchesAt W vo out := by
  obtain ⟨vs, h1, h2⟩ := h.outs
  exact row_at h1 fun i x hx => by obtain ⟨u, e1, e2, _⟩ := h2 i x hx; exact ⟨u, e1, e2.rowsAt⟩
theorem ScanN.formO {w W : World} {vo vk : Value} {out : List (List (List UInt8))} {kept : List (List UInt8)} (h : ScanN w vo out vk kept W) : ∃ a c, vo = .slice a out.length c := by
  obtain ⟨vs, h1, _⟩ := h.outs
  rcases h1.2 with ⟨rfl, h0⟩ | ⟨g, cap, cur, rfl, _⟩
  · exact ⟨_, _, by rw [h0]⟩
  · exact ⟨_, _, rfl⟩

/-- 'kept = append(kept, d)'. -/
theorem wpList_append_keptN {w W : World} {ops : Array Oper} {rest : List Oper} {op : Oper} {a : Act} {Q : Exit → Act → World → Prop}
    (hg : op.guard = none) (s x : Operand) (hop : op.op = Op.call { callee := Callee.builtin Builtin.append, args := #[s, x], argTypes := #[22, 22] })
    (vo vk u : Value) (out : List (List (List UInt8))) (kept : List (List UInt8)) (d : List UInt8) (g cap : Nat) (hsv : a.eval s = vk) (hS : ScanN w vo out vk kept W) (hx : a.eval x = .slice (some ⟨g, 0, none⟩) 1 cap)
    (h0 : W.cell? ⟨g, 0, none⟩ = some u) (hu : Own w u d W) (hl : kept.length ≤ 1048576)
    (hK : ∀ v' W', ScanN w vo out v' (kept ++ [d]) W' → wpList Try.prog ops Q rest (a.put op.dst v') W') :
    wpList Try.prog ops Q (op :: rest) a W := by
  obtain ⟨ti, hti, hy0, hy1, hy2⟩ := info_parts infoRow0
  obtain ⟨⟨vs, h1, h2⟩, hnew⟩ := hS.rows
  obtain ⟨ws, o1, o2⟩ := hS.outs
  have hvl : vs.length = kept.length := by have := h1.1; omega
  refine wpList_append_own_at W hg s x 22 hop 0 23 ti (.slice none 0 0) 1 24 Try.underlying22 hti hy0 hy1 hy2 rfl (by decide) vk _ _ hsv h1 ⟨g, 0, none⟩ 1 cap [u] hx rfl (fun j u' hj => by
    match j, hj with
    | 0, hj => cases hj; exact h0) (fun u' hu' => by rw [List.mem_singleton] at hu'; rw [hu']; exact hu.one) (by unfold maxLen; omega) (by omega) (Nat.zero_le _) ?_
  intro v' W' r1 r2 _ r3
  have hn' : ∀ k, v'.ownBlock = some k → w.heap.size ≤ k := fun k hk => by
    rcases r3 with e | e
    · exact hnew k (by rw [← e]; exact hk)
    · rw [e] at hk; cases hk; exact hS.bb.size
  have hb' : Below w.heap.size w W' := hS.bb.grown r2 hS.bb.size hnew
  have hty := grown_type h1 r2 (t := 5) (by decide)
  refine hK v' W' ⟨hb', ⟨⟨vs ++ [u], by rw [List.length_append, List.length_singleton]; exact r1, fun i x hx => ?_⟩, hn'⟩, ⟨ws, row_keeps o1 fun k e => r2.block k (o1.lt k e).2 fun e' => own_apart o1 h1 (by decide) k e e'.symm, fun i x' hx' => ?_⟩, hS.new⟩
  · by_cases hi : i < kept.length
    · rw [List.getElem?_append_left hi] at hx
      obtain ⟨u', e1, e2⟩ := h2 i x hx
      exact ⟨u', by rw [List.getElem?_append_left (by omega)]; exact e1, e2.keepT hb' hty⟩
    · have hi2 : i = kept.length := by have := (List.getElem?_eq_some_iff.1 hx).1; rw [List.length_append, List.length_singleton] at this; omega
      rw [hi2, List.getElem?_append_right (Nat.le_refl _), Nat.sub_self] at hx
      cases hx
      exact ⟨u, by rw [hi2, ← hvl, List.getElem?_append_right (Nat.le_refl _), Nat.sub_self]; rfl, hu.keepT hb' hty⟩
  · obtain ⟨u', e1, e2, e3⟩ := o2 i x' hx'
    refine ⟨u', e1, e2.keep hb' (fun k e hk => r2.block k hk fun e' => e3 k e e'.symm) hty, fun k e e' => ?_⟩
    rcases r3 with e4 | e4
    · exact e3 k e (by rw [← e4]; exact e')
    · rw [e4] at e'
      cases e'
      have := e2.lt _ e
      omega
/-- 'out = append(out, kept)', and then nothing is kept. -/
theorem wpList_append_outN {w W : World} {ops : Array Oper} {rest : List Oper} {op : Oper} {a : Act} {Q : Exit → Act → World → Prop}
    (hg : op.guard = none) (s x : Operand) (hop : op.op = Op.call { callee := Callee.builtin Builtin.append, args := #[s, x], argTypes := #[33, 33] })
    (vo vk : Value) (out : List (List (List UInt8))) (kept : List (List UInt8)) (g cap : Nat) (hsv : a.eval s = vo) (hS : ScanN w vo out vk kept W) (hx : a.eval x = .slice (some ⟨g, 0, none⟩) 1 cap)
    (h0 : W.cell? ⟨g, 0, none⟩ = some vk) (hu1 : vk.oneCell' = true) (hl : out.length ≤ 1048576)
    (hK : ∀ v' W', ScanN w v' (out ++ [kept]) (.slice none 0 0) [] W' → wpList Try.prog ops Q rest (a.put op.dst v') W') :
    wpList Try.prog ops Q (op :: rest) a W := by
  obtain ⟨ti, hti, hy0, hy1, hy2⟩ := info_parts infoRows0
  obtain ⟨ws, o1, o2⟩ := hS.outs
  have hwl : ws.length = out.length := by have := o1.1; omega
  refine wpList_append_own_at W hg s x 33 hop 0 22 ti (.slice none 0 0) 1 24 Try.underlying33 hti hy0 hy1 hy2 rfl (by decide) vo _ _ hsv o1 ⟨g, 0, none⟩ 1 cap [vk] hx rfl (fun j u' hj => by
    match j, hj with
    | 0, hj => cases hj; exact h0) (fun u' hu' => by rw [List.mem_singleton] at hu'; rw [hu']; exact hu1) (by unfold maxLen; omega) (by omega) (Nat.zero_le _) ?_
  intro v' W' r1 r2 _ r3
  have hb' : Below w.heap.size w W' := hS.bb.grown r2 hS.bb.size hS.new
  have hty := grown_type o1 r2 (t := 5) (by decide)
  have hkp : ∀ (u : Value) (x : List (List UInt8)), RowsN w u x W → RowsN w u x W' := fun u x hR => by
    have hR2 := hR
    obtain ⟨⟨us, g1, _⟩, _⟩ := hR
    exact hR2.keep hb' (fun k e hk => r2.block k hk fun e' => own_apart g1 o1 (by decide) k e e'.symm) hty
  refine hK v' W' ⟨hb', RowsN.start w W', ⟨ws ++ [vk], by rw [List.length_append, List.length_singleton]; exact r1, fun i x' hx' => ?_⟩, fun k hk => ?_⟩
  · by_cases hi : i < out.length
    · rw [List.getElem?_append_left hi] at hx'
      obtain ⟨u', e1, e2, e3⟩ := o2 i x' hx'
      exact ⟨u', by rw [List.getElem?_append_left (by omega)]; exact e1, hkp u' x' e2, fun k e e' => by cases e'⟩
    · have hi2 : i = out.length := by have := (List.getElem?_eq_some_iff.1 hx').1; rw [List.length_append, List.length_singleton] at this; omega
      rw [hi2, List.getElem?_append_right (Nat.le_refl _), Nat.sub_self] at hx'
      cases hx'
      exact ⟨vk, by rw [hi2, ← hwl, List.getElem?_append_right (Nat.le_refl _), Nat.sub_self]; rfl, hkp vk kept hS.rows, fun k e e' => by cases e'⟩
  · rcases r3 with e | e
    · exact hS.new k (by rw [← e]; exact hk)
    · rw [e] at hk; cases hk; exact hS.bb.size

/-- Scanned up to t. -/
def ScanTo (b : List UInt8) (t : Nat) (out : List (List (List UInt8))) (kept : List (List UInt8)) (en : Nat) : Prop := ∀ rs m e, AllIs (b.drop t) rs m e → ∃ rs0 m0, AllIs b rs0 m0 e ∧ scanGo (finErr e) rs0 [] [] 0 0 = scanGo (finErr e) rs out kept t en
theorem ScanTo.start (b : List UInt8) : ScanTo b 0 [] [] 0 := fun rs m e h => ⟨rs, m, by simpa using h, rfl⟩
section
variable {b : List UInt8} {t en : Nat} {out : List (List (List UInt8))} {kept : List (List UInt8)}
theorem ScanTo.stop (h : ScanTo b t out kept en) (hne : b.drop t ≠ []) {x : Int} (hx : takeErr (b.drop t) = x) (h0 : x ≠ 0) : ScanIs b out en x := by
  obtain ⟨rs0, m0, h1, h2⟩ := h [] 0 x (by rw [← hx]; exact .stop hne (by rw [hx]; exact h0))
  refine ⟨rs0, m0, x, h1, h2.trans ?_⟩
  show (out, en, finErr x kept.length) = _
  unfold finErr
  rw [if_neg (fun h => h0 h.1)]
theorem ScanTo.done (h : ScanTo b t out kept en) (ht : b.drop t = []) : ScanIs b out en (if 0 < kept.length then 32 else 0) := by
  obtain ⟨rs0, m0, h1, h2⟩ := h [] 0 0 (by rw [ht]; exact .none)
  refine ⟨rs0, m0, 0, h1, h2.trans ?_⟩
  show (out, en, finErr 0 kept.length) = _
  unfold finErr
  by_cases hk : 0 < kept.length
  · rw [if_pos ⟨rfl, hk⟩, if_pos hk]
  · rw [if_neg (fun h => hk h.2), if_neg hk]
theorem ScanTo.next (h : ScanTo b t out kept en) (hne : b.drop t ≠ []) (he : takeErr (b.drop t) = 0) {r : RecD} (hr : r = takeRec (b.drop t)) {L t2 : Nat} (hL : L = takeLen (b.drop t)) (ht : t2 = t + L) {out2 : List (List (List UInt8))} {kept2 : List (List UInt8)} {en2 : Nat}
    (hs : ∀ f rs, scanGo f (r :: rs) out kept t en = scanGo f rs out2 kept2 t2 en2) : ScanTo b t2 out2 kept2 en2 := fun rs m e h' => by
  have h'' := AllIs.more hne he (rs := rs) (n := m) (e := e) (by rw [List.drop_drop, ← hL, ← ht]; exact h')
  rw [← hr] at h''
  obtain ⟨rs0, m0, h1, h2⟩ := h _ _ _ h''
  exact ⟨rs0, m0, h1, h2.trans (hs _ _)⟩
theorem ScanTo.bad (h : ScanTo b t out kept en) (hne : b.drop t ≠ []) (he : takeErr (b.drop t) = 0) {r : RecD} (hr : r = takeRec (b.drop t)) (hs : ∀ f rs, scanGo f (r :: rs) out kept t en = (out, en, 34)) : ScanIs b out en 34 := by
  obtain ⟨rs, m, e, h'⟩ := AllIs.some ((b.drop t).drop (takeLen (b.drop t)))
  have h'' := AllIs.more hne he h'
  rw [← hr] at h''
  obtain ⟨rs0, m0, h1, h2⟩ := h _ _ _ h''
  exact ⟨rs0, m0, e, h1, h2.trans (hs _ _)⟩
end
end Go.Proofs.Ytbbglgfgelnncaa

namespace Go.Proofs.Ytbbglgfgelnncaa
open Go.RowKit

set_option maxRecDepth 100000 in
set_option maxHeartbeats 8000000 in
theorem landScan_any (a : Option Addr) (n c : Nat) (b : List UInt8) (w : World) (h : Bytes w (.slice a n c) b) (hl : n ≤ 1048576) : Calls Try.prog 16 #[.slice a n c] w fun e w' => ScanAt w b e w' := by
  have HBL := hide (bytes_len h).1
  have HH := hide h
  clear h
  go_enter Try.func16, Try.ntmps16
  go_wp2_with fail
  go_loopw [5, 6, 7, 8] (fun vo vk en at' W => ∃ (t enn : Nat) (out : List (List (List UInt8))) (kept : List (List UInt8)), t ≤ n ∧ at' = .int .i64 ((t : Nat) : Int) ∧ en = .int .i64 ((enn : Nat) : Int) ∧ out.length ≤ t ∧ kept.length ≤ 1024 ∧ ScanN w vo out vk kept W ∧ ScanTo b t out kept enn) (fun _ _ _ at' _ => n - (intOf at').toNat)
  case atStart => exact ⟨0, 0, [], [], Nat.zero_le _, rfl, rfl, Nat.zero_le _, by simp, ScanN.start w, ScanTo.start b⟩
  case round =>
    obtain ⟨t, enn, out, kept, ht, rfl, rfl, hol, hkl, hS, hT⟩ := hrel
    have HS := hide hS
    have HT := hide hT
    clear hS hT
    obtain ⟨ka, kc, ek⟩ := (unhide HS).rows.form
    obtain ⟨oa, oc, eo⟩ := (unhide HS).formO
    subst ek eo
    obtain ⟨nk, hnk⟩ : ∃ nk, nk = kept.length := ⟨_, rfl⟩
    rw [← hnk] at HS hkl ⊢
    have HNK := hide hnk
    clear hnk
    obtain ⟨no, hno⟩ : ∃ no, no = out.length := ⟨_, rfl⟩
    rw [← hno] at HS hol ⊢
    have HNO := hide hno
    clear hno
    by_cases hlt : t < n
    · have hlt' : (t : Int) < (n : Int) := by omega
      obtain ⟨s, k, B, q, q'⟩ := slice_from (l := t) (unhide HH) (by omega)
      have HB : Hid (Bytes wr (.slice s (n - t) k) (b.drop t)) := B.later (unhide HS).bb
      have HNE : Hid (b.drop t ≠ []) := fun e => by have := congrArg List.length e; rw [List.length_drop] at this; have := unhide HBL; simp at *; omega
      clear B
      go_wp2_with fail
      refine (recTake_any _ _ _ _ _ (unhide HB)).mono ?_
      rintro e w2 ⟨a2, n2, c2, rfl, hF⟩
      clear q q' HB
      have HO := hide (hF.own (unhide HS).bb)
      have HS2 := hide ((unhide HS).later hF.1.2.2)
      have HDL := hide (bytes_len hF.1.1).1
      have HTL : Hid (takeErr (b.drop t) = 0 → (takeRec (b.drop t)).right ∧ takeLen (b.drop t) ≤ n - t ∧ takeLen (b.drop t) = 9 + (takeRec (b.drop t)).d.length) := fun he => by
        have h := put_take _ he
        refine ⟨h.1, ?_, h.2.2.2.2⟩
        have := h.2.2.1
        rw [List.length_drop, unhide HBL] at this
        exact this
      clear hF HS
      obtain ⟨x, hx⟩ : ∃ x, x = takeErr (b.drop t) := ⟨_, rfl⟩
      obtain ⟨L, hLd⟩ : ∃ L, L = takeLen (b.drop t) := ⟨_, rfl⟩
      obtain ⟨r, hr⟩ : ∃ r, r = takeRec (b.drop t) := ⟨_, rfl⟩
      rw [← hx, ← hLd, ← hr]
      rw [← hr] at HO HDL
      rw [← hx, ← hLd, ← hr] at HTL
      have HX := hide hx
      have HLD := hide hLd
      have HR := hide hr
      clear hx hLd hr
      have HS3 := hide ((unhide HS2).alloc (.cells #[.int .u8 (r.k.toNat : Nat), .slice a2 n2 c2] 49))
      have HO3 := hide ((unhide HO).alloc (.cells #[.int .u8 (r.k.toNat : Nat), .slice a2 n2 c2] 49))
      have hblk := heap_alloc_new w2 (.cells #[.int .u8 (r.k.toNat : Nat), .slice a2 n2 c2] 49)
      have x0 := cell_of_row _ _ 0 _ _ _ hblk
      have x1 := cell_of_row _ _ 1 _ _ _ hblk
      clear HS2 HO
      by_cases hx0 : x = 0
      · subst hx0
        obtain ⟨hright, hL1, hL2⟩ := unhide HTL rfl
        have hk12 : r.k = 1 ∨ r.k = 2 := by
          have h1 := hright.1
          rcases (by omega : r.k.toNat = 1 ∨ r.k.toNat = 2) with e | e
          · exact .inl (UInt8.toNat_inj.1 e)
          · exact .inr (UInt8.toNat_inj.1 e)
        have hL3 : L = 9 + n2 := by rw [hL2, unhide HDL]
        obtain ⟨E, hE⟩ : ∃ E, E = t + L := ⟨_, rfl⟩
        have g2 : (t : Int) + (L : Int) = (E : Int) := by omega
        have hEn : E ≤ n := by omega
        have hE9 : t + 9 ≤ E := by omega
        have HE := hide hE
        have HL3 := hide hL3
        clear hright hL1 hL2 hL3 hE HTL
        rcases hk12 with hk1 | hk2
        · have hkb : (((r.k.toNat : Nat) : Int) == 1) = true := by rw [hk1]; rfl
          by_cases hk4 : nk = 1024
          · have hkb2 : (((r.k.toNat : Nat) : Int) == 2) = false := by rw [hk1]; rfl
            have HSC := hide ((unhide HT).bad (unhide HNE) (unhide HX).symm (unhide HR) (fun f rs => by rw [scanGo, if_pos hk1, if_pos (by rw [← unhide HNK]; exact hk4)]))
            have hk4' : ¬ (nk : Int) < 1024 := by omega
            clear hk1
            go_wp2_with fail
            go_ret3
            exact ⟨_, out, enn, 34, rfl, unhide HSC, (unhide HS3).batches, (unhide HS3).bb⟩
          · have HT2 : Hid (ScanTo b E out (kept ++ [r.d]) enn) := (unhide HT).next (unhide HNE) (unhide HX).symm (unhide HR) (unhide HLD) (unhide HE) fun f rs => by
              rw [scanGo, if_pos hk1, if_neg (by rw [← unhide HNK]; exact hk4), unhide HDL, ← unhide HL3, ← unhide HE]
            have hk4' : (nk : Int) < 1024 := by omega
            obtain ⟨w3, hw3⟩ : ∃ w3, w3 = w2.alloc (.cells #[.int .u8 (r.k.toNat : Nat), .slice a2 n2 c2] 49) := ⟨_, rfl⟩
            rw [← hw3] at HS3 HO3 x0 x1
            have HS4 := hide ((unhide HS3).alloc (.cells #[.slice a2 n2 c2] 23))
            have HO4 := hide ((unhide HO3).alloc (.cells #[.slice a2 n2 c2] 23))
            have HW3 := hide hw3
            clear hk1 hblk hw3
            go_upto_region 7 with fail
            rw [← unhide HW3]
            clear HW3
            go_wp2_with (at_builtin; refine wpList_append_keptN rfl _ _ rfl _ _ (.slice a2 n2 c2) _ _ r.d w3.heap.size 1 rfl (unhide HS4) rfl (by simp) (unhide HO4) (by rw [← unhide HNK]; omega) ?_)
            rintro v9 w9 hS9
            have HS9 := hide hS9
            clear hS9 HS3 HS4 HO3 HO4
            go_wp2_with fail
            exact ⟨⟨E, enn, out, kept ++ [r.d], hEn, rfl, rfl, by rw [← unhide HNO]; omega, by rw [List.length_append, List.length_singleton, ← unhide HNK]; omega, unhide HS9, unhide HT2⟩, by simp [intOf]; omega⟩
        · have hkb : (((r.k.toNat : Nat) : Int) == 1) = false := by rw [hk2]; rfl
          have hkb2 : (((r.k.toNat : Nat) : Int) == 2) = true := by rw [hk2]; rfl
          have hkn : ¬ r.k = 1 := by rw [hk2]; decide
          obtain ⟨w3, hw3⟩ : ∃ w3, w3 = w2.alloc (.cells #[.int .u8 (r.k.toNat : Nat), .slice a2 n2 c2] 49) := ⟨_, rfl⟩
          rw [← hw3] at HS3 HO3 x0 x1
          have HW3 := hide hw3
          have HKN := hide hkn
          clear hk2 hblk hw3 hkn
          go_upto_region 7 with fail
          rw [← unhide HW3]
          clear HW3
          go_wp2_with fail
          refine (isEnd_any _ r.d nk hkl _ (bytes_of_owns (unhide HO3).own)).mono ?_
          rintro e w4 ⟨rfl, hb4⟩
          have HS4 := hide ((unhide HS3).later hb4)
          clear hb4 HS3 HO3 x0 x1
          by_cases hend : 0 < nk ∧ r.d.length = 2 ∧ le r.d = nk
          · have HT2 : Hid (ScanTo b E (out ++ [kept]) [] E) := (unhide HT).next (unhide HNE) (unhide HX).symm (unhide HR) (unhide HLD) (unhide HE) fun f rs => by
              rw [scanGo, if_neg (unhide HKN), if_neg (by rw [← unhide HNK]; omega), unhide HDL, ← unhide HL3, ← unhide HE]
            rw [decide_eq_true hend]
            have HS5 := hide ((unhide HS4).alloc (.cells #[.slice ka nk kc] 22))
            clear hend
            go_wp2_with (at_builtin; refine wpList_append_outN rfl _ _ rfl _ (.slice ka nk kc) _ _ w4.heap.size 1 rfl (unhide HS5) rfl (by simp) rfl (by rw [← unhide HNO]; omega) ?_)
            rintro v9 w9 hS9
            have HS9 := hide hS9
            clear hS9 HS4 HS5
            go_wp2_with fail
            exact ⟨⟨E, E, out ++ [kept], [], hEn, rfl, rfl, by rw [List.length_append, List.length_singleton, ← unhide HNO]; omega, by simp, unhide HS9, unhide HT2⟩, by simp [intOf]; omega⟩
          · have HSC := hide ((unhide HT).bad (unhide HNE) (unhide HX).symm (unhide HR) (fun f rs => by rw [scanGo, if_neg (unhide HKN), if_pos (by rw [← unhide HNK]; omega)]))
            rw [decide_eq_false hend]
            clear hend
            go_wp2_with fail
            go_ret3
            exact ⟨_, out, enn, 34, rfl, unhide HSC, (unhide HS4).batches, (unhide HS4).bb⟩
      · have hx0' : (x != 0) = true := bne_iff_ne.2 hx0
        have HSC := hide ((unhide HT).stop (unhide HNE) (unhide HX).symm hx0)
        clear hblk x0 x1 hx0
        go_wp2_with fail
        go_ret3
        exact ⟨_, out, enn, x, rfl, unhide HSC, (unhide HS3).batches, (unhide HS3).bb⟩
    · have hlt' : ¬ (t : Int) < (n : Int) := by omega
      have HDN := hide ((unhide HT).done (List.drop_of_length_le (by rw [unhide HBL]; omega)))
      rw [← unhide HNK] at HDN
      by_cases hk0 : 0 < nk
      · rw [if_pos hk0] at HDN
        have hk0' : (nk : Int) > 0 := by omega
        go_wp2_with fail
        go_ret3
        exact ⟨_, out, enn, 32, rfl, unhide HDN, (unhide HS).batches, (unhide HS).bb⟩
      · rw [if_neg hk0] at HDN
        have hk0' : nk = 0 := by omega
        subst hk0'
        go_wp2_with fail
        go_ret3
        exact ⟨_, out, enn, 0, rfl, unhide HDN, (unhide HS).batches, (unhide HS).bb⟩
end Go.Proofs.Ytbbglgfgelnncaa
